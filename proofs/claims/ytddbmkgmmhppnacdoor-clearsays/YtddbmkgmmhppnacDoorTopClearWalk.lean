/-
  The walk of 'TopClear': it returns true for every plot and all cells.
-/
import Derived.Test.YtddbmkgmmhppnacDoorTNew2
import Derived.Test.YtddbmkgmmhppnacDoorTSet
import Derived.Test.YtddbmkgmmhppnacDoorRClear
namespace Go.Proofs.YtddbmkgmmhppnacDoor
open Go.RowKit

theorem boxed (w : World) (W H : Int) (A : Option Addr) (n cap : Nat) (o : Obj) {wa : World}
    (hb : Below ((w.alloc (.cells #[.int .i64 W, .int .i64 H, .slice A n cap] 24)).alloc o).heap.size ((w.alloc (.cells #[.int .i64 W, .int .i64 H, .slice A n cap] 24)).alloc o) wa) :
    wa.cell? ⟨w.heap.size, 0, none⟩ = some (.int .i64 W) ∧ wa.cell? ⟨w.heap.size, 1, none⟩ = some (.int .i64 H) ∧ wa.cell? ⟨w.heap.size, 2, none⟩ = some (.slice A n cap) := by
  have h : ∀ o, wa.cell? ⟨w.heap.size, o, none⟩ = #[Value.int .i64 W, .int .i64 H, .slice A n cap][o]? := fun o => by
    rw [hb.cell (p := ⟨w.heap.size, o, none⟩) (by simp; omega), World.cell?_alloc_old _ _ _ (by simp), World.cell?_alloc_new]
  exact ⟨h 0, h 1, h 2⟩
theorem OldRow.below' {w w' : World} {A : Option Addr} {n : Nat} {xs : Nat → Int} (h : OldRow w A n xs) (hb : Below w.heap.size w w') : OldRow w' A n xs := fun i hi => by
  obtain ⟨b, o, e, hlt, hc⟩ := h i hi
  exact ⟨b, o, e, Nat.lt_of_lt_of_le hlt hb.size, (hb.cell (p := ⟨b, o + i, none⟩) hlt).trans hc⟩
theorem RefAt.keep {D : Nat → Prop} {w w' : World} {b : Nat} {W H V : Int} {bl : Nat → Bool} (g : RefAt w b W H V bl) (K : Keep D w w') (h : ¬ D b) : RefAt w' b W H V bl :=
  ⟨g.w1, g.w2, g.h1, g.h2, K.cellOf g.c0 h, K.cellOf g.c1 h, K.cellOf g.c2 h, fun i hi => K.cellOf (g.cs i hi) h⟩

/-- a table and the reference's grid, alike -/
structure Trio (w : World) (N m tb pb : Nat) (W H V : Int) (bl : Nat → Bool) : Prop where
  ra : RefAt w m W H V bl
  rf : Free w m
  tk : TabOk w tb pb W H V bl
  v1 : 0 ≤ V
  ne1 : m ≠ tb
  ne2 : m ≠ pb
  l1 : N ≤ m
  l2 : N ≤ tb
  l3 : N ≤ pb
  n0 : 0 < N
theorem Trio.lt {w : World} {N m tb pb : Nat} {W H V : Int} {bl : Nat → Bool} (t : Trio w N m tb pb W H V bl) : m < w.heap.size := World.block_lt_of_cell? w _ t.ra.c0
theorem Trio.below {w w' : World} {N m tb pb : Nat} {W H V : Int} {bl : Nat → Bool} (t : Trio w N m tb pb W H V bl) (hb : Below w.heap.size w w') : Trio w' N m tb pb W H V bl :=
  ⟨t.ra.below hb t.lt, fun o => (hb.frozen (p := ⟨m, o, none⟩) t.lt).trans (t.rf o), t.tk.below hb, t.v1, t.ne1, t.ne2, t.l1, t.l2, t.l3, t.n0⟩
theorem Trio.drewN {w : World} {N m tb pb : Nat} {W H V : Int} {bl : Nat → Bool} (t : Trio w N m tb pb W H V bl) (k : Nat) : Trio (w.drewN k) N m tb pb W H V bl :=
  ⟨t.ra.drewN k, t.rf, t.tk.drewN k, t.v1, t.ne1, t.ne2, t.l1, t.l2, t.l3, t.n0⟩
/-- .. a cell set in both -/
theorem Trio.set {w w1 w2 : World} {N m tb pb : Nat} {W H V : Int} {bl bl' : Nat → Bool} (t : Trio w N m tb pb W H V bl) (K : Keep (fun k => k = tb ∨ k = pb) w w1) (t1 : TabOk w1 tb pb W H (V + 1) bl') (T2 : Touch m w1 w2) (R2 : RefAt w2 m W H (V + 1) bl') (F2 : Free w2 m) : Trio w2 N m tb pb W H (V + 1) bl' ∧ (∀ {B : Nat} {a : World}, Below B a w → B ≤ N → Below B a w2) :=
  ⟨⟨R2, F2, t1.keep T2.keep (fun q => t.ne1 q.symm) (fun q => t.ne2 q.symm) (fun q => by have := t.l1; have := t.n0; omega), by have := t.v1; omega, t.ne1, t.ne2, t.l1, t.l2, t.l3, t.n0⟩,
    fun hb hB => T2.below ⟨K.os.trans hb.os, K.tape.trans hb.tape, K.output.trans hb.output, Nat.le_trans hb.size K.size, fun k hk => (by
      have l2 := t.l2
      have l3 := t.l3
      have l1 := t.l1
      have hw := t.lt
      exact (K.block k (by omega) (by omega)).trans (hb.block k hk))⟩ (by have := t.l1; omega)⟩

set_option maxHeartbeats 1000000 in
set_option maxRecDepth 1000000 in
theorem topClear_none (W H : Int) (A B : Option Addr) (n cap k cb : Nat) (w : World) (s : StepsAt w) (h0 : 0 < w.heap.size)
    (hL : ∀ w' : World, Calls Tryd.prog 6 #[.agg #[.int .i64 W, .int .i64 H, .slice A n cap]] w' fun e w'' => e = .returned (.tuple #[.pointer none, .pointer none, .bool false]) ∧ Below w'.heap.size w' w'') :
    Calls Tryd.prog 4 #[.agg #[.int .i64 W, .int .i64 H, .slice A n cap], .slice B k cb] w fun e w' => e = .returned (.bool true) ∧ Below w.heap.size w w' := by
  have hs2 : sideB 2 = true := by decide
  have hs1 : sideB 1 = true := by decide
  have hG := gridAt_new 2 1 (w.alloc (.cells #[.int .i64 W, .int .i64 H, .slice A n cap] 24)) hs2 hs1
  have hb : Below w.heap.size w ((w.alloc (.cells #[.int .i64 W, .int .i64 H, .slice A n cap] 24)).alloc (.cells (gridC 2 1) 68)) := ((Below.refl _ _).alloc (Nat.le_refl _) _).alloc (by simp) _
  have hs := s.below hb h0
  have e1 : (w.alloc (.cells #[.int .i64 W, .int .i64 H, .slice A n cap] 24)).heap.size = w.heap.size + 1 := by simp
  rw [e1] at hG
  clear e1
  go_enter Tryd.func4, Tryd.ntmps4
  go_wp2_with (go_at_call 14; refine (new_ok _ _ _ hs2 hs1).mono ?_; rintro e w' ⟨rfl, rfl⟩)
  refine (tnew_any _ hG hs).mono ?_
  rintro e wa ⟨tb, pb, rfl, tk, _, _, hba⟩
  have HBA : Below w.heap.size w wa := hb.trans (hba.mono (by simp; omega))
  obtain ⟨p0, p1, p2⟩ := boxed w W H A n cap _ hba
  clear hG hs hb hba
  have hst := steps_in 0 2 wa tk (by decide) (by decide)
  rw [show clr 2 1 (fun _ => false) (((0 : Nat) : Int) % 2) (((0 : Nat) : Int) / 2) 2 = 1 from by decide] at hst
  go_wp2_with fail
  refine hst.mono ?_
  rintro e wb ⟨rfl, m, rfl⟩
  have hza : w.heap.size < wa.heap.size := World.block_lt_of_cell? wa _ p0
  clear hst tk
  go_wp2_with (go_at_call 6; refine (hL _).mono ?_; rintro e w2 ⟨rfl, hb2⟩)
  go_ret
  exact ⟨rfl, (below_drewN HBA m).trans (hb2.mono HBA.size)⟩

set_option maxHeartbeats 1000000 in
set_option maxRecDepth 1000000 in
theorem topClear_many (W H : Int) (A B : Option Addr) (n cap k cb : Nat) (xs : Nat → Int) (w : World) (s : StepsAt w) (h0 : 0 < w.heap.size) (hn : ¬ 300 < (n : Int)) (h : sideB W = true) (hh : sideB H = true) (hx : OldRow w A n xs) (hk : 40 < (k : Int)) (_hm : k ≤ maxLen) :
    Calls Tryd.prog 4 #[.agg #[.int .i64 W, .int .i64 H, .slice A n cap], .slice B k cb] w fun e w' => e = .returned (.bool true) ∧ Below w.heap.size w w' := by
  unfold maxLen at _hm
  have hs2 : sideB 2 = true := by decide
  have hs1 : sideB 1 = true := by decide
  have hG := gridAt_new 2 1 (w.alloc (.cells #[.int .i64 W, .int .i64 H, .slice A n cap] 24)) hs2 hs1
  have hb : Below w.heap.size w ((w.alloc (.cells #[.int .i64 W, .int .i64 H, .slice A n cap] 24)).alloc (.cells (gridC 2 1) 68)) := ((Below.refl _ _).alloc (Nat.le_refl _) _).alloc (by simp) _
  have hs := s.below hb h0
  have e1 : (w.alloc (.cells #[.int .i64 W, .int .i64 H, .slice A n cap] 24)).heap.size = w.heap.size + 1 := by simp
  rw [e1] at hG
  clear e1
  go_enter Tryd.func4, Tryd.ntmps4
  go_wp2_with (go_at_call 14; refine (new_ok _ _ _ hs2 hs1).mono ?_; rintro e w' ⟨rfl, rfl⟩)
  refine (tnew_any _ hG hs).mono ?_
  rintro e wa ⟨tb, pb, rfl, tk, _, _, hba⟩
  have HBA : Below w.heap.size w wa := hb.trans (hba.mono (by simp; omega))
  obtain ⟨p0, p1, p2⟩ := boxed w W H A n cap _ hba
  clear hG hs hb hba
  have hst := steps_in 0 2 wa tk (by decide) (by decide)
  rw [show clr 2 1 (fun _ => false) (((0 : Nat) : Int) % 2) (((0 : Nat) : Int) / 2) 2 = 1 from by decide] at hst
  go_wp2_with fail
  refine hst.mono ?_
  rintro e wb ⟨rfl, m, rfl⟩
  have hza : w.heap.size < wa.heap.size := World.block_lt_of_cell? wa _ p0
  clear hst tk
  have hl := laid_ok W H A n cap xs (wa.drewN m) (by omega) h hh ((hx.below' HBA).below' (below_drewN (Below.refl _ _) m))
  go_wp2_with (go_at_call 6; refine hl.mono ?_; rintro e w2 ⟨rfl, hb2, _⟩)
  go_ret
  exact ⟨rfl, (below_drewN HBA m).trans (hb2.mono HBA.size)⟩

theorem steps_i {tb pb : Nat} {W H V : Int} {bl : Nat → Bool} (c : Int) (d : Nat) (w : World) (t : TabOk w tb pb W H V bl) (hr : inB W H c = true) (hd : d < 8) :
    Calls Tryd.prog 11 #[.pointer (some ⟨tb, 0, none⟩), .int .i64 c, .int .i64 d] w fun e w' => e = .returned (.tuple #[.int .i64 (clr W H bl (c % W) (c / W) d : Nat), .nilIface]) ∧ ∃ m, w' = w.drewN m := by
  have hcc : 0 ≤ c ∧ c < W * H := of_decide_eq_true hr
  obtain ⟨cN, rfl⟩ : ∃ cN : Nat, c = cN := ⟨c.toNat, by omega⟩
  exact steps_in cN d w t hr hd

set_option maxHeartbeats 4000000 in
set_option maxRecDepth 1000000 in
theorem topClear_ok (W H : Int) (A B : Option Addr) (n cap k cb : Nat) (xs ys : Nat → Int) (w : World) (s : StepsAt w) (h0 : 0 < w.heap.size) (hn : ¬ 300 < (n : Int)) (h : sideB W = true) (hh : sideB H = true) (hx : OldRow w A n xs) (hk : ¬ 40 < (k : Int)) (hy : OldRow w B k ys) :
    Calls Tryd.prog 4 #[.agg #[.int .i64 W, .int .i64 H, .slice A n cap], .slice B k cb] w fun e w' => e = .returned (.bool true) ∧ Below w.heap.size w w' := by
  have hs2 : sideB 2 = true := by decide
  have hs1 : sideB 1 = true := by decide
  have hG := gridAt_new 2 1 (w.alloc (.cells #[.int .i64 W, .int .i64 H, .slice A n cap] 24)) hs2 hs1
  have hb : Below w.heap.size w ((w.alloc (.cells #[.int .i64 W, .int .i64 H, .slice A n cap] 24)).alloc (.cells (gridC 2 1) 68)) := ((Below.refl _ _).alloc (Nat.le_refl _) _).alloc (by simp) _
  have hs := s.below hb h0
  have e1 : (w.alloc (.cells #[.int .i64 W, .int .i64 H, .slice A n cap] 24)).heap.size = w.heap.size + 1 := by simp
  rw [e1] at hG
  clear e1
  go_enter Tryd.func4, Tryd.ntmps4
  go_wp2_with (go_at_call 14; refine (new_ok _ _ _ hs2 hs1).mono ?_; rintro e w' ⟨rfl, rfl⟩)
  refine (tnew_any _ hG hs).mono ?_
  rintro e wa ⟨tb1, pb1, rfl, tk, _, _, hba⟩
  have HBA : Below w.heap.size w wa := hb.trans (hba.mono (by simp; omega))
  obtain ⟨p0, p1, p2⟩ := boxed w W H A n cap _ hba
  clear hG hs hb hba
  have hst := steps_in 0 2 wa tk (by decide) (by decide)
  rw [show clr 2 1 (fun _ => false) (((0 : Nat) : Int) % 2) (((0 : Nat) : Int) / 2) 2 = 1 from by decide] at hst
  go_wp2_with fail
  refine hst.mono ?_
  rintro e wb ⟨rfl, m, rfl⟩
  have hza : w.heap.size < wa.heap.size := World.block_lt_of_cell? wa _ p0
  clear hst tk
  have hl := laid_ok W H A n cap xs (wa.drewN m) (by omega) h hh ((hx.below' HBA).below' (below_drewN (Below.refl _ _) m))
  go_wp2_with (go_at_call 6; refine hl.mono ?_; rintro e w2 ⟨rfl, hb2, hz2, V, bl, hV, hB⟩)
  have HB : Below w.heap.size w w2 := (below_drewN HBA m).trans (hb2.mono HBA.size)
  have s2 := s.below HB h0
  have hle := HBA.size
  have hzz : (wa.drewN m).heap.size = wa.heap.size := rfl
  rw [hzz] at hz2 hB
  clear p0 p1 p2 hb2 HBA hx hn h hh hs2 hs1 hl
  generalize hGe : wa.heap.size + 1 = G at *
  generalize hMe : G + 1 = M at *
  refine (tnew_any _ hB.ga s2).mono ?_
  rintro e w3 ⟨tb, pb, rfl, tk, q1, q2, hb3⟩
  have T3 : Trio w3 w.heap.size M tb pb W H V bl := ⟨hB.ra.below hb3 (by omega), fun o => (hb3.frozen (p := ⟨M, o, none⟩) (by show M < _; omega)).trans (hB.rf o), tk, hB.v1, by omega, by omega, by omega, by omega, by omega, h0⟩
  have HB3 := HB.trans (hb3.mono HB.size)
  have w1' := hB.ra.w1
  have w2' := hB.ra.w2
  have h1' := hB.ra.h1
  have h2' := hB.ra.h2
  clear hB tk q1 q2 hb3 HB s2 hz2 hle hGe hMe hzz hza s
  obtain ⟨k1, k2⟩ := wh_bd w1' w2' h1' h2'
  go_wp2
  go_loopg [13] k (fun gk iv wr => ∃ (i : Nat) (V : Int) (bl : Nat → Bool), i ≤ k ∧ gk = k - i ∧ iv = .int .i64 i ∧ V ≤ 300 + i ∧ Trio wr w.heap.size M tb pb W H V bl ∧ Below w.heap.size w wr)
  case atStart => exact ⟨0, V, bl, by omega, rfl, rfl, by omega, T3, HB3⟩
  case round =>
    clear T3 HB3 hV V bl
    obtain ⟨i, V, bl, hi, hgk, rfl, hV, T, HB⟩ := hrel
    have HG : Hid (gk = k - i) := hgk
    clear hgk
    by_cases hlt : i < k
    · have i2 : (i : Int) < (k : Int) := by omega
      have i1 : (0 : Int) ≤ (i : Int) := by omega
      obtain ⟨ba, oa, rfl, hba, hca⟩ := hy i hlt
      have fa : wr.cell? ⟨ba, oa + i, none⟩ = some (.int .i64 (ys i)) := (HB.cell (p := ⟨ba, oa + i, none⟩) hba).trans hca
      clear hca
      generalize ys i = c at fa
      cases hin : inB W H c with
      | false =>
        go_wp2_with (go_at_call 12; refine (ris_out _ _ T.ra hin).mono ?_; rintro e w4 ⟨rfl, m4, rfl⟩)
        go_roundg (k - (i + 1))
        case measure => have := HG.out; omega
        case rel => exact ⟨i + 1, V, bl, by omega, rfl, by go_num, by omega, T.drewN m4, below_drewN HB m4⟩
      | true =>
        have hcc : 0 ≤ c ∧ c < W * H := of_decide_eq_true hin
        obtain ⟨cN, rfl⟩ : ∃ cN : Nat, c = cN := ⟨c.toNat, by omega⟩
        obtain ⟨c1, c2⟩ := hcc
        have c3 : (cN : Int) < 256 := by omega
        have hbl := T.ra.cs cN (by omega)
        have hv0 := T.v1
        go_wp2_with (go_at_call 12; refine (ris_in _ _ T.ra hin).mono ?_; rintro e w4 ⟨rfl, m4, rfl⟩)
        have T4 := T.drewN m4
        have HB4 := below_drewN HB m4
        have fa4 : (wr.drewN m4).cell? ⟨ba, oa + i, none⟩ = some (.int .i64 (cN : Int)) := fa
        have hbl4 : (wr.drewN m4).cell? ⟨M, 2 + cN, none⟩ = some (.bool (bl cN)) := hbl
        clear T HB fa hbl
        generalize wr.drewN m4 = w4 at *
        go_quiet (fail)
        go_wp2_with fail
        have T5 := T4.drewN nq
        have HB5 := below_drewN HB4 nq
        have fa5 : (w4.drewN nq).cell? ⟨ba, oa + i, none⟩ = some (.int .i64 (cN : Int)) := fa4
        clear T4 HB4 fa4 hbl4
        generalize w4.drewN nq = w5 at *
        have l2 := T5.l2
        have l3 := T5.l3
        refine (tset_new cN (!bl cN) w5 T5.tk hin (Bool.not_not _).symm hv0 (by omega)).mono ?_
        rintro e w6 ⟨rfl, t6, K6⟩
        have fa6 : w6.cell? ⟨ba, oa + i, none⟩ = some (.int .i64 (cN : Int)) := K6.cellOf fa5 (by show ¬ (ba = tb ∨ ba = pb); omega)
        have nm : ¬ (M = tb ∨ M = pb) := by have := T5.ne1; have := T5.ne2; omega
        have R6 : RefAt w6 M W H V bl := T5.ra.keep K6 nm
        have F6 : Free w6 M := T5.rf.keep T5.lt K6 nm
        have hrs := rset_new cN (!bl cN) w6 R6 F6 hin (Bool.not_not _).symm hv0 (by omega)
        go_wp2_with (go_at_call 9; refine hrs.mono ?_; rintro e w7 ⟨rfl, T7, R7, F7⟩)
        obtain ⟨Tn, Hn⟩ := T5.set K6 t6 T7 R7 F7
        have HB7 := Hn HB5 (Nat.le_refl _)
        clear Hn T7 R7 F7 t6 K6 R6 F6 hrs fa5 fa6 T5 HB5
        go_roundg (k - (i + 1))
        case measure => have := HG.out; omega
        case rel => exact ⟨i + 1, V + 1, upd bl cN (!bl cN), by omega, rfl, by go_num, by omega, Tn, HB7⟩
    · have : i = k := by omega
      subst this
      clear HG hlt hi hV hy
      have c0 := T.ra.c0
      have c1 := T.ra.c1
      obtain ⟨N, hN⟩ : ∃ N : Nat, W * H = N := ⟨(W * H).toNat, by omega⟩
      have HN : Hid (W * H = N) := hN
      clear hN c0 c1
      go_wp2
      go_loopg [15] N (fun gk iv wr => ∃ (a : Int), 0 ≤ a ∧ a ≤ W * H ∧ gk = N - a.toNat ∧ iv = .int .i64 a ∧ Trio wr w.heap.size M tb pb W H V bl ∧ Below w.heap.size w wr)
      case atStart => exact ⟨0, by omega, by omega, rfl, rfl, T, HB⟩
      case round =>
        clear T HB
        obtain ⟨a, a1, a2, hgk, rfl, T, HB⟩ := hrel
        have HG : Hid (gk = N - a.toNat) := hgk
        clear hgk
        have c0 := T.ra.c0
        have c1 := T.ra.c1
        by_cases hlt : a < W * H
        · have hin : inB W H a = true := decide_eq_true ⟨a1, hlt⟩
          go_wp2
          go_quiet (fail)
          go_wp2
          have T1 := T.drewN nq
          have HB1 := below_drewN HB nq
          clear T HB c0 c1
          generalize wr.drewN nq = w4 at *
          go_loopg [16] 8 (fun gk iv wr => ∃ (d : Nat), d ≤ 8 ∧ gk = 8 - d ∧ iv = .int .i64 d ∧ Trio wr w.heap.size M tb pb W H V bl ∧ Below w.heap.size w wr)
          case atStart => exact ⟨0, by omega, rfl, rfl, T1, HB1⟩
          case round =>
            clear T1 HB1
            obtain ⟨d, hd, hgd, rfl, T, HB⟩ := hrel
            have HD : Hid (gk = 8 - d) := hgd
            clear hgd
            by_cases hd8 : d < 8
            · have hd8' : (d : Int) < 8 := by omega
              have hst := steps_i a d wr T.tk hin hd8
              obtain ⟨hat, hai⟩ := at_place w1' hin
              obtain ⟨x1, x2, y1, y2⟩ := at_iff.1 hat
              cases hM : mayB W H bl (a % W) (a / W) d with
              | false =>
                rw [clr_not hM] at hst
                go_wp2_with (go_at_call 11; refine hst.mono ?_; rintro e w5 ⟨rfl, m5, rfl⟩)
                have T5 := T.drewN m5
                have HB5 := below_drewN HB m5
                clear T HB hst
                generalize wr.drewN m5 = w5 at *
                have c0 := T5.ra.c0
                go_quiet ((go_at_call 15; exact Calls.quiet_of (rmay_v hM _ (T5.ra.drewN _) hd8 (by omega) (by omega) (by omega) (by omega))))
                go_wp2
                go_roundg (8 - (d + 1))
                case measure => have := HD.out; omega
                case rel => exact ⟨d + 1, by omega, rfl, by go_num, T5.drewN nq, below_drewN HB5 nq⟩
              | true =>
                have hcm := clr_may w2' h2' hd8 hM
                have hto := to_idx hM
                have hat2 := (may_at hM).2
                obtain ⟨p1, p2, p3⟩ := idx_parts hat2
                have hlt2 := (idx_lt w1' w2' h1' h2' hat2).2
                rw [hai] at hto
                have hle := clr_le W H bl (a % W + stepX d) (a / W + stepY d) d
                generalize idx W (a % W + stepX d) (a / W + stepY d) = r at *
                have hrin : inB W H r = true := decide_eq_true ⟨by omega, hlt2⟩
                have hst2 := fun w' t => steps_i (W := W) (H := H) (V := V) (bl := bl) (tb := tb) (pb := pb) (r : Int) d w' t hrin hd8
                rw [hcm] at hst
                rw [p2, p3] at hst2
                generalize clr W H bl (a % W + stepX d) (a / W + stepY d) d = n1 at *
                have hn1 : ((n1 + 1 : Nat) : Int) = (n1 : Int) + 1 := by omega
                rw [hn1] at hst
                have hn2 : (n1 : Int) ≤ 16 := by omega
                have hn3 : (0 : Int) ≤ (n1 : Int) := by omega
                have hto' := fun w g => rto_v (b := M) (H := H) (V := V) (bl := bl) hto w g hd8 (by omega) (by omega)
                clear hcm hto hat2 p1 p2 p3 hlt2 hle hn1
                go_wp2_with (go_at_call 11; refine hst.mono ?_; rintro e w5 ⟨rfl, m5, rfl⟩)
                have T5 := T.drewN m5
                have HB5 := below_drewN HB m5
                clear T HB hst
                generalize wr.drewN m5 = w5 at *
                have c0 := T5.ra.c0
                go_quiet ((go_at_call 15; exact Calls.quiet_of (rmay_v hM _ (T5.ra.drewN _) hd8 (by omega) (by omega) (by omega) (by omega))))
                have T6 := T5.drewN nq
                have HB6 := below_drewN HB5 nq
                clear T5 HB5 c0
                generalize w5.drewN nq = w6 at *
                go_wp2_with (first | (go_at_call 16; refine (hto' _ T6.ra).mono ?_; rintro e w7 ⟨rfl, rfl⟩) | (go_at_call 11; refine (hst2 _ T6.tk).mono ?_; rintro e w8 ⟨rfl, m8, rfl⟩))
                go_roundg (8 - (d + 1))
                case measure => have := HD.out; omega
                case rel => exact ⟨d + 1, by omega, rfl, by go_num, T6.drewN m8, below_drewN HB6 m8⟩
            · have : d = 8 := by omega
              subst this
              go_wp2
              go_roundg (N - (a + 1).toNat)
              case measure => have := HG.out; have := HN.out; omega
              case rel => exact ⟨a + 1, by omega, by omega, rfl, rfl, T, HB⟩
        · have hge : ¬ a < W * H := hlt
          go_wp2
          go_quiet (fail)
          go_wp2
          go_ret
          exact ⟨rfl, below_drewN HB nq⟩
end Go.Proofs.YtddbmkgmmhppnacDoor
