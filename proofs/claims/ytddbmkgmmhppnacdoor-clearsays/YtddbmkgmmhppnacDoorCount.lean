/-
  A line counted anew.
-/
import Derived.Test.YtddbmkgmmhppnacDoorTab
namespace Go.Proofs.YtddbmkgmmhppnacDoor
open Go.RowKit

theorem wrap_small {n : Int} (h1 : -1000000 ≤ n) (h2 : n ≤ 1000000) : IntKind.i64.wrap n = n := by
  unfold IntKind.wrap
  simp [IntKind.bits, IntKind.signed]
  omega

/-- what counting does -/
def CountPost (w w' : World) (e : Ending) (tb pb : Nat) (W H V : Int) (bl : Nat → Bool) (d : Nat) (x y : Int) (T : Nat → Nat → Nat) : Prop :=
  e = .returned (.tuple #[]) ∧ ∃ T', TabAt w' tb pb W H V bl T' ∧ Counted W H bl d x y T T' ∧ Keep (fun k => k = tb) w w'

theorem to_idx {W H px py : Int} {bl : Nat → Bool} {d : Nat} (hm : mayB W H bl px py d = true) : ((idx W px py : Nat) : Int) + (stepY d * W + stepX d) = (idx W (px + stepX d) (py + stepY d) : Nat) := by
  obtain ⟨a, b⟩ := may_at hm
  rw [(idx_parts a).1, (idx_parts b).1, Int.add_mul]
  omega
theorem to_v {b : Nat} {W H V c r : Int} {bl : Nat → Bool} {d : Nat} (hr : c + (stepY d * W + stepX d) = r) (w : World) (g : GridAt w b W H V bl) (s : StepsAt w) (hd : d < 8) (c1 : -1000 ≤ c) (c2 : c ≤ 1000) :
    Calls Tryd.prog 33 #[.pointer (some ⟨b, 0, none⟩), .int .i64 c, .int .i64 d] w fun e w' => e = .returned (.int .i64 r) ∧ ∃ m, w' = w.drewN m := hr ▸ to_any c d w g s hd c1 c2

set_option maxHeartbeats 4000000 in
set_option maxRecDepth 1000000 in
theorem count_any {tb pb : Nat} {W H V : Int} {bl : Nat → Bool} {T : Nat → Nat → Nat} (x y : Int) (d : Nat) (w : World) (t : TabAt w tb pb W H V bl T) (hd : d < 8) (x1 : -50 ≤ x) (x2 : x ≤ 50) (y1 : -50 ≤ y) (y2 : y ≤ 50)
    (h0 : mayB W H bl x y d = true → T (idx W (x + stepX d) (y + stepY d)) d = clr W H bl (x + stepX d) (y + stepY d) d) :
    Calls Tryd.prog 23 #[.pointer (some ⟨tb, 0, none⟩), .int .i64 x, .int .i64 y, .int .i64 d] w fun e w' => CountPost w w' e tb pb W H V bl d x y T := by
  obtain ⟨s1, s2, s3, s4⟩ := step_bd d
  have hs := fun w h => step_any d w h hd
  have w1' := t.ga.w1
  have w2' := t.ga.w2
  have h1' := t.ga.h1
  have h2' := t.ga.h2
  have d0 : (0 : Int) ≤ (d : Int) := by omega
  have d8 : (d : Int) < 8 := by omega
  go_enter Tryd.func23, Tryd.ntmps23
  go_wp2_with (go_at_call 30; refine (hs _ t.st).mono ?_; rintro e w' ⟨rfl, m, rfl⟩)
  go_loopg [1, 2] 17 (fun gk xv yv wr => ∃ (k : Nat) (px py : Int) (T' : Nat → Nat → Nat), gk = 17 - k ∧ xv = .int .i64 px ∧ yv = .int .i64 py ∧ px = x - k * stepX d ∧ py = y - k * stepY d ∧ -100 ≤ px ∧ px ≤ 100 ∧ -100 ≤ py ∧ py ≤ 100 ∧ TabAt wr tb pb W H V bl T' ∧ Cnt W H bl d x y k T T' ∧ Keep (fun k => k = tb) w wr)
  case atStart => exact ⟨0, x, y, T, rfl, rfl, rfl, by simp, by simp, by omega, by omega, by omega, by omega, t.drewN m, Cnt.start W H bl d x y T, (Keep.refl _ w).drewN m⟩
  case round =>
    obtain ⟨k, px, py, T', hgk, rfl, rfl, ex, ey, b1, b2, b3, b4, tr, C, K⟩ := hrel
    have HG : Hid (gk = 17 - k) := hgk
    have HX : Hid (px = x - k * stepX d) := ex
    have HY : Hid (py = y - k * stepY d) := ey
    have hk := C.short w2' h2' hd
    clear hgk ex ey hs
    have hp := tr.p0
    cases ha : atB W H px py with
    | false =>
      have hc := cell_out (b := pb) (W := W) (H := H) (V := V) (bl := bl) px py wr tr.ga ha
      go_wp2_with (go_at_call 31; refine hc.mono ?_; rintro e w' ⟨rfl, rfl⟩)
      have CO : Counted W H bl d x y T T' := C.over hd (by rw [← HX.out, ← HY.out]; exact ha)
      exact bodyPost_ret (v := .tuple #[]) (by simp [results, Tryd.results23, go_sem]) rfl ⟨rfl, T', tr, CO, K⟩
    | true =>
      obtain ⟨c, hci⟩ : ∃ c, idx W px py = c := ⟨_, rfl⟩
      have hc := cell_v hci wr tr.ga ha
      have hcl := (idx_lt w1' w2' h1' h2' ha).1
      rw [hci] at hcl
      have hcz : (c : Int) < 256 := by omega
      have hcc := tr.ts c d hcl hd
      have hfr := tr.fr (1 + c * 8 + d)
      have T1 : TabAt (wr.setCell ⟨tb, 1 + c * 8 + d, none⟩ (.int .i64 0)) tb pb W H V bl (upd2 T' c d 0) := tr.set hcl hd 0
      have K1 : Keep (fun k => k = tb) w (wr.setCell ⟨tb, 1 + c * 8 + d, none⟩ (.int .i64 0)) := K.setCell (p := ⟨tb, 1 + c * 8 + d, none⟩) (fun _ => rfl) _
      have nx : px - stepX d = x - ((k + 1 : Nat) : Int) * stepX d := by rw [HX.out, Int.natCast_add, Int.add_mul]; omega
      have ny : py - stepY d = y - ((k + 1 : Nat) : Int) * stepY d := by rw [HY.out, Int.natCast_add, Int.add_mul]; omega
      have HNX : Hid (px - stepX d = x - ((k + 1 : Nat) : Int) * stepX d) := nx
      have HNY : Hid (py - stepY d = y - ((k + 1 : Nat) : Int) * stepY d) := ny
      clear nx ny
      obtain ⟨i1, i2, i3, i4⟩ := at_iff.1 ha
      cases hm : mayB W H bl px py d with
      | false =>
        have C1 : Cnt W H bl d x y (k + 1) T (upd2 T' (idx W px py) d 0) := C.next HX.out HY.out ha (clr_not hm).symm
        rw [hci] at C1
        go_wp2_with (first | (go_at_call 31; refine hc.mono ?_; rintro e w' ⟨rfl, rfl⟩))
        clear tr K hc hcc hfr hp
        generalize w'.setCell ⟨tb, 1 + c * 8 + d, none⟩ (.int .i64 0) = W1 at *
        refine (may_v hm W1 T1.ga T1.st hd b1 b2 b3 b4).mono ?_
        rintro e w2 ⟨rfl, m2, rfl⟩
        go_wp2
        go_roundg (17 - (k + 1))
        case measure => have := HG.out; omega
        case rel => exact ⟨k + 1, px - stepX d, py - stepY d, _, rfl, rfl, rfl, HNX.out, HNY.out, by omega, by omega, by omega, by omega, T1.drewN m2, C1, K1.drewN m2⟩
      | true =>
        have hah := C.ahead h0 HX.out HY.out hm
        have hto := to_idx hm
        have hcm := clr_may w2' h2' hd hm
        have hat2 := (may_at hm).2
        have htl := (idx_lt w1' w2' h1' h2' hat2).1
        rw [hci] at hto
        have hne : idx W (px + stepX d) (py + stepY d) ≠ c := by
          intro q
          obtain ⟨q1, q2⟩ := idx_inj hat2 ha (q.trans hci.symm)
          rcases step_cases hd with ⟨e1, e2⟩ | ⟨e1, e2⟩ | ⟨e1, e2⟩ | ⟨e1, e2⟩ | ⟨e1, e2⟩ | ⟨e1, e2⟩ | ⟨e1, e2⟩ | ⟨e1, e2⟩ <;> omega
        have C1 : Cnt W H bl d x y (k + 1) T (upd2 T' (idx W px py) d (clr W H bl (px + stepX d) (py + stepY d) d + 1)) := C.next HX.out HY.out ha hcm.symm
        rw [hci] at C1
        have hT1 : upd2 T' c d 0 (idx W (px + stepX d) (py + stepY d)) d = clr W H bl (px + stepX d) (py + stepY d) d := by
          rw [← hah]; exact if_neg (fun q => hne q.1)
        have hle := clr_le W H bl (px + stepX d) (py + stepY d) d
        have T2 := fun m => (T1.drewN m).set hcl hd (clr W H bl (px + stepX d) (py + stepY d) d + 1)
        simp only [upd2_upd2] at T2
        generalize hr : idx W (px + stepX d) (py + stepY d) = r at *
        generalize clr W H bl (px + stepX d) (py + stepY d) d = n at *
        have hrz : (r : Int) < 256 := by omega
        have hr0 : (0 : Int) ≤ (r : Int) := by omega
        clear hah hcm hat2
        go_wp2_with (first | (go_at_call 31; refine hc.mono ?_; rintro e w' ⟨rfl, rfl⟩))
        clear tr K hc hcc hfr hp
        generalize w'.setCell ⟨tb, 1 + c * 8 + d, none⟩ (.int .i64 0) = W1 at *
        refine (may_v hm W1 T1.ga T1.st hd b1 b2 b3 b4).mono ?_
        rintro e w2 ⟨rfl, m2, rfl⟩
        have T3 : TabAt (W1.drewN m2).drew tb pb W H V bl (upd2 T' c d 0) := T1.drewN (m2 + 1)
        have K3 : Keep (fun k => k = tb) w (W1.drewN m2).drew := (K1.drewN m2).drew
        have hto' := fun w g s => to_v (b := pb) (H := H) (V := V) (bl := bl) hto w g s hd (by omega) (by omega)
        clear T1 K1 T2
        generalize W1.drewN m2 = W4 at *
        have p1 := T3.p0
        have l1 := T3.ts r d htl hd
        rw [hT1] at l1
        have l2 := T3.ts c d hcl hd
        have fr := T3.fr (1 + c * 8 + d)
        have hn0 : (0 : Int) ≤ (n : Int) := by omega
        have hn1 : (n : Int) ≤ 16 := by omega
        go_wp2
        go_region_with (go_at_call 33; refine (hto' _ T3.ga T3.st).mono ?_; rintro e w3 ⟨rfl, m3, hw3⟩; have T3 : TabAt w3 tb pb W H V bl (upd2 T' c d 0) := (by rw [hw3]; exact T3.drewN m3); have K3 : Keep (fun k => k = tb) w w3 := (by rw [hw3]; exact K3.drewN m3); clear hw3; have p1 := T3.p0; have l1 := T3.ts r d htl hd; rw [hT1] at l1; have l2 := T3.ts c d hcl hd; have fr := T3.fr (1 + c * 8 + d))
        all_goals
          have hwr : IntKind.i64.wrap ((n : Int) + 1) = ((n + 1 : Nat) : Int) := by rw [wrap_small (by omega) (by omega)]; rfl
          have T5 := T3.set hcl hd (n + 1)
          have K5 : Keep (fun k => k = tb) w (w3.setCell ⟨tb, 1 + c * 8 + d, none⟩ (.int .i64 ((n + 1 : Nat) : Int))) := K3.setCell (p := ⟨tb, 1 + c * 8 + d, none⟩) (fun _ => rfl) _
          rw [upd2_upd2] at T5
          rw [hwr]
          clear T3 K3 p1 l1 l2 fr
          go_wp2
          go_roundg (17 - (k + 1))
          case measure => have := HG.out; omega
          case rel => exact ⟨k + 1, px - stepX d, py - stepY d, _, rfl, rfl, rfl, HNX.out, HNY.out, by omega, by omega, by omega, by omega, T5, C1, K5⟩
end Go.Proofs.YtddbmkgmmhppnacDoor
