/-
  A flood from a cell; what a cell costs in it; how many have been reached.
-/
import Derived.Test.YtfhicijgpdpfpaaDoorSpread
import Derived.Test.YtfhicijgpdpfpaaDoorCopy
namespace Go.Proofs.YtfhicijgpdpfpaaDoor
open Go.RowKit

/-- a flood that was made anew -/
def Flooded (w w' : World) (e : Ending) (W H V : Int) (bl : Nat → Bool) (o : Int) : Prop :=
  ∃ fb gb cb F, e = .returned (.tuple #[.pointer (some ⟨fb, 0, none⟩), .nilIface]) ∧ FloodAt w' fb gb cb W H V bl F (cnt F (W * H).toNat) ∧ Best (Edge W H bl) o F ∧ w.heap.size ≤ fb ∧ w.heap.size ≤ gb ∧ w.heap.size ≤ cb ∧ Below w.heap.size w w'

set_option maxHeartbeats 400000 in
theorem from_out {b : Nat} {W H V : Int} {bl : Nat → Bool} (c : Int) (w : World) (g : GridAt w b W H V bl) (hr : inB W H c = false) :
    Calls Tryd.prog 14 #[.pointer (some ⟨b, 0, none⟩), .int .i64 c] w fun e w' => e = .returned (.tuple #[.pointer none, .iface 78 (.int .i64 1)]) ∧ ∃ m, w' = w.drewN m := by
  go_enter Tryd.func14, Tryd.ntmps14
  go_wp2_with (go_at_call 45; refine (check_out c _ g hr).mono ?_; rintro e w' ⟨rfl, m, rfl⟩)
  go_ret2
  exact ⟨rfl, _, rfl⟩

set_option maxHeartbeats 400000 in
theorem from_bl {b : Nat} {W H V : Int} {bl : Nat → Bool} (c : Nat) (w : World) (g : GridAt w b W H V bl) (hr : inB W H c = true) (hb : bl c = true) :
    Calls Tryd.prog 14 #[.pointer (some ⟨b, 0, none⟩), .int .i64 c] w fun e w' => e = .returned (.tuple #[.pointer none, .iface 78 (.int .i64 4)]) ∧ ∃ m, w' = w.drewN m := by
  go_enter Tryd.func14, Tryd.ntmps14
  go_wp2_with (go_at_call 45; refine (check_bl c _ g hr hb).mono ?_; rintro e w' ⟨rfl, m, rfl⟩)
  go_ret2
  exact ⟨rfl, _, rfl⟩

set_option maxHeartbeats 1000000 in
theorem from_ok {b : Nat} {W H V : Int} {bl : Nat → Bool} (c : Nat) (w : World) (g : GridAt w b W H V bl) (s : StepsAt w) (hr : inB W H c = true) (hb : bl c = false) :
    Calls Tryd.prog 14 #[.pointer (some ⟨b, 0, none⟩), .int .i64 c] w fun e w' => Flooded w w' e W H V bl c := by
  have hmm := @run_makeMap Tryd.prog
  go_enter Tryd.func14, Tryd.ntmps14
  go_wp2_with (go_at_call 45; refine (check_ok c _ g hr hb).mono ?_; rintro e w' ⟨rfl, m, rfl⟩)
  have gm : GridAt (w.drewN m) b W H V bl := g.drewN m
  refine (copy_any _ gm).mono ?_
  rintro e wa ⟨rfl, hba, hza, ga, _⟩
  have hba' : Below w.heap.size w wa := ⟨hba.os, hba.tape, hba.output, hba.size, hba.block⟩
  have sa := s.below hba' s.pos
  have ga' : GridAt wa w.heap.size W H V bl := ga
  have hza' : w.heap.size < wa.heap.size := hza
  clear hba hza ga gm
  go_wp2_with fail
  have HB : Below wa.heap.size wa ((wa.alloc (.map #[] 0)).alloc (.cells #[.pointer (some ⟨w.heap.size, 0, none⟩), .map (some wa.heap.size)] 87)) := ((Below.refl _ _).alloc (Nat.le_refl _) _).alloc (by simp) _
  have FA : FloodAt ((wa.alloc (.map #[] 0)).alloc (.cells #[.pointer (some ⟨w.heap.size, 0, none⟩), .map (some wa.heap.size)] 87)) (wa.heap.size + 1) w.heap.size wa.heap.size W H V bl (fun _ => none) 0 :=
    ⟨World.cell?_alloc_at #[.pointer (some ⟨w.heap.size, 0, none⟩), .map (some wa.heap.size)] 87 (wa.heap.size + 1) 0 (by simp), World.cell?_alloc_at #[.pointer (some ⟨w.heap.size, 0, none⟩), .map (some wa.heap.size)] 87 (wa.heap.size + 1) 1 (by simp), ga'.below HB hza', (MapF.made wa Tryd.prog 3).keep (F := fun _ => False) ((Keep.refl _ _).alloc _) id, sa.below HB sa.pos⟩
  have HB2 := hba'.alloc (by omega) (.map #[] 0)
  have HB3 := HB2.alloc (by simp; omega) (.cells #[.pointer (some ⟨w.heap.size, 0, none⟩), .map (some wa.heap.size)] 87)
  have hsz : w.heap.size ≤ ((wa.alloc (.map #[] 0)).alloc (.cells #[.pointer (some ⟨w.heap.size, 0, none⟩), .map (some wa.heap.size)] 87)).heap.size := by simp; omega
  refine (spread_any c _ FA hr).mono ?_
  rintro e wb ⟨rfl, F, FB, BB, KB⟩
  have HBL : Below w.heap.size w wb := HB3.trans (KB.to_below hsz (fun k hk => by omega))
  clear FA HB HB2 HB3 KB
  go_wp2
  go_ret2
  exact ⟨_, _, _, F, rfl, FB, BB, by omega, by omega, by omega, HBL⟩

theorem slot0 (w : World) : Below w.heap.size w (w.alloc (.cells #[.int .i64 0, .int .i64 0] 31)) := (Below.refl _ _).alloc (Nat.le_refl _) _
theorem slotW (w : World) {w1 : World} {m : Nat} (h : w1 = (w.alloc (.cells #[.int .i64 0, .int .i64 0] 31)).drewN m) :
    w1.cell? ⟨w.heap.size, 0, none⟩ = some (.int .i64 0) ∧ w1.cell? ⟨w.heap.size, 1, none⟩ = some (.int .i64 0) ∧ w1.frozen? ⟨w.heap.size, 0, none⟩ = false ∧ w1.frozen? ⟨w.heap.size, 1, none⟩ = false ∧ w1.heap.size = w.heap.size + 1 ∧ Below w.heap.size w w1 := by
  subst h
  have hB := slot0 w
  refine ⟨World.cell?_alloc_at #[.int .i64 0, .int .i64 0] 31 w.heap.size 0 rfl, World.cell?_alloc_at #[.int .i64 0, .int .i64 0] 31 w.heap.size 1 rfl, free_alloc w #[.int .i64 0, .int .i64 0] 31 w.heap.size (Nat.le_refl _) 0, free_alloc w #[.int .i64 0, .int .i64 0] 31 w.heap.size (Nat.le_refl _) 1, by simp, ⟨hB.os, hB.tape, hB.output, hB.size, hB.block⟩⟩

set_option maxHeartbeats 400000 in
theorem fcost_out {fb gb cb n : Nat} {W H V : Int} {bl : Nat → Bool} {F : Int → Option (Int × Int)} (c : Int) (w : World) (f : FloodAt w fb gb cb W H V bl F n) (hr : inB W H c = false) :
    Calls Tryd.prog 18 #[.pointer (some ⟨fb, 0, none⟩), .int .i64 c] w fun e w' => e = .returned (.tuple #[.agg #[.int .i64 0, .int .i64 0], .iface 78 (.int .i64 1)]) ∧ Below w.heap.size w w' := by
  have p0 := f.p0
  have hfb := f.blocks.1
  go_enter Tryd.func18, Tryd.ntmps18
  go_wp2_with (go_at_call 53; refine (free_out c _ (f.ga.below (slot0 w) f.blocks.2.1) hr).mono ?_; rintro e w1 ⟨rfl, m, hm⟩; obtain ⟨b0, b1, f0, f1, hsz, HB⟩ := slotW w hm; have q1 := (f.below HB).p1; clear hm; skip)
  refine bodyPost_ret (v := .tuple #[.agg #[.int .i64 0, .int .i64 0], .iface 78 (.int .i64 1)]) (by simp [results, Tryd.results18, go_sem, b0, b1]) rfl ⟨rfl, ?_⟩
  exact (HB.setCell (p := ⟨w.heap.size, 0, none⟩) (Nat.le_refl _) _).setCell (p := ⟨w.heap.size, 1, none⟩) (Nat.le_refl _) _

set_option maxHeartbeats 400000 in
theorem fcost_some {fb gb cb n : Nat} {W H V : Int} {bl : Nat → Bool} {F : Int → Option (Int × Int)} (c : Nat) {s d : Int} (w : World) (f : FloodAt w fb gb cb W H V bl F n) (hr : inB W H c = true) (hF : F c = some (s, d)) :
    Calls Tryd.prog 18 #[.pointer (some ⟨fb, 0, none⟩), .int .i64 c] w fun e w' => e = .returned (.tuple #[.agg #[.int .i64 s, .int .i64 d], .nilIface]) ∧ Below w.heap.size w w' := by
  have p0 := f.p0
  have hfb := f.blocks.1
  have hwc := wf_cell f.ga.w1 f.ga.w2 f.ga.h1 f.ga.h2 hr
  go_enter Tryd.func18, Tryd.ntmps18
  go_wp2_with (go_at_call 53; refine (free_in c _ (f.ga.below (slot0 w) f.blocks.2.1) hr).mono ?_; rintro e w1 ⟨rfl, m, hm⟩; obtain ⟨b0, b1, f0, f1, hsz, HB⟩ := slotW w hm; have q1 := (f.below HB).p1; clear hm; have l1 := (f.below HB).mp.look_some law3 Tryd.under113 (zero43 _) hwc (fv_some hF) true)
  refine bodyPost_ret (v := .tuple #[.agg #[.int .i64 s, .int .i64 d], .nilIface]) (by simp [results, Tryd.results18, go_sem, b0, b1, hsz]) rfl ⟨rfl, ?_⟩
  exact ((HB.setCell (p := ⟨w.heap.size, 0, none⟩) (Nat.le_refl _) _).setCell (p := ⟨w.heap.size, 1, none⟩) (Nat.le_refl _) _).alloc (by simp; omega) _

set_option maxHeartbeats 400000 in
theorem fcost_none {fb gb cb n : Nat} {W H V : Int} {bl : Nat → Bool} {F : Int → Option (Int × Int)} (c : Nat) (w : World) (f : FloodAt w fb gb cb W H V bl F n) (hr : inB W H c = true) (hF : F c = none) :
    Calls Tryd.prog 18 #[.pointer (some ⟨fb, 0, none⟩), .int .i64 c] w fun e w' => e = .returned (.tuple #[.agg #[.int .i64 0, .int .i64 0], .iface 78 (.int .i64 5)]) ∧ Below w.heap.size w w' := by
  have p0 := f.p0
  have hfb := f.blocks.1
  have hwc := wf_cell f.ga.w1 f.ga.w2 f.ga.h1 f.ga.h2 hr
  go_enter Tryd.func18, Tryd.ntmps18
  go_wp2_with (go_at_call 53; refine (free_in c _ (f.ga.below (slot0 w) f.blocks.2.1) hr).mono ?_; rintro e w1 ⟨rfl, m, hm⟩; obtain ⟨b0, b1, f0, f1, hsz, HB⟩ := slotW w hm; have q1 := (f.below HB).p1; clear hm; have l1 := (f.below HB).mp.look_none law3 Tryd.under113 (zero43 _) hwc (fv_none hF) true)
  refine bodyPost_ret (v := .tuple #[.agg #[.int .i64 0, .int .i64 0], .iface 78 (.int .i64 5)]) (by simp [results, Tryd.results18, go_sem, b0, b1, hsz]) rfl ⟨rfl, ?_⟩
  exact ((HB.setCell (p := ⟨w.heap.size, 0, none⟩) (Nat.le_refl _) _).setCell (p := ⟨w.heap.size, 1, none⟩) (Nat.le_refl _) _).alloc (by simp; omega) _

set_option maxHeartbeats 400000 in
theorem reached_any {fb gb cb n : Nat} {W H V : Int} {bl : Nat → Bool} {F : Int → Option (Int × Int)} (w : World) (f : FloodAt w fb gb cb W H V bl F n) :
    Calls Tryd.prog 21 #[.pointer (some ⟨fb, 0, none⟩)] w fun e w' => e = .returned (.int .i64 n) ∧ w' = w := by
  have p1 := f.p1
  have hl := fun ty => f.mp.len Tryd.under113 ty
  go_enter Tryd.func21, Tryd.ntmps21
  go_wp2
  go_ret
  exact ⟨rfl, rfl⟩

end Go.Proofs.YtfhicijgpdpfpaaDoor
