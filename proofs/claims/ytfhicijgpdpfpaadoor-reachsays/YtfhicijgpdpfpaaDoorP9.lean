/-
  Texts laid together: Copy, From, Find, TopFloodM.
-/
import Derived.Test.YtfhicijgpdpfpaaDoorP8
import Derived.Deep.MidRow
import Derived.Deep.LoopGhost
import Derived.Deep.Light
import Derived.Deep.RegionWith
/-
  A grid's copy; the closed fact 'grounds'.
-/
namespace Go.Proofs.YtfhicijgpdpfpaaDoor
open Go.RowKit

theorem run_alloc65 (w : World) : (Instr.alloc 90 true (.tuple #[])).run Tryd.prog w = .ok (.pointer (some ⟨w.heap.size, 0, none⟩)) (w.alloc (.cells (gridC 0 0) 90)) := by kernel_rfl

theorem wpList_alloc65 {ops : Array Oper} {rest : List Oper} {o : Oper} {a : Act} {w : World} {Q : Exit → Act → World → Prop} (hgd : o.guard = none) (ho : o.op = .alloc 90)
    (h : wpList Tryd.prog ops Q rest (a.put o.dst (.pointer (some ⟨w.heap.size, 0, none⟩))) (w.alloc (.cells (gridC 0 0) 90))) : wpList Tryd.prog ops Q (o :: rest) a w :=
  wpList_plain hgd fun _ hK => by
    unfold Oper.wp execOp
    simp only [ho, Sem.run_bind, run_alloc65 w, Result.andThen_ok]
    exact hK _ _ h

/-- a grid's cells as a list -/
def gridL (W H V : Int) (bl : Nat → Bool) : List Value := [.int .i64 W, .int .i64 H, .int .i64 V] ++ (List.range 256).map fun i => Value.bool (bl i)
theorem gridL_len (W H V : Int) (bl : Nat → Bool) : (gridL W H V bl).length = 259 := by unfold gridL; simp
theorem gridL_at (W H V : Int) (bl : Nat → Bool) (i : Nat) (hi : i < 256) : (gridL W H V bl)[3 + i]? = some (.bool (bl i)) := by
  unfold gridL
  rw [List.getElem?_append_right (by simp)]
  simp [hi]
theorem gridL_one (W H V : Int) (bl : Nat → Bool) : ∀ v ∈ gridL W H V bl, v.oneCell' = true := by
  intro v hv
  unfold gridL at hv
  simp only [List.mem_append, List.mem_cons, List.mem_map, List.not_mem_nil, or_false] at hv
  rcases hv with (rfl | rfl | rfl) | ⟨i, _, rfl⟩ <;> rfl
theorem GridAt.range {w : World} {b : Nat} {W H V : Int} {bl : Nat → Bool} (g : GridAt w b W H V bl) : w.rangeAt b 0 (gridL W H V bl) := by
  intro j v hj
  rw [Nat.zero_add]
  have hlt : j < 259 := by
    have := (List.getElem?_eq_some_iff.1 hj).1
    rw [gridL_len] at this
    exact this
  by_cases h : j < 3
  · have hc : j = 0 ∨ j = 1 ∨ j = 2 := by omega
    unfold gridL at hj
    rw [List.getElem?_append_left (by simpa using h)] at hj
    rcases hc with rfl | rfl | rfl
    · simp at hj; rw [← hj]; exact g.c0
    · simp at hj; rw [← hj]; exact g.c1
    · simp at hj; rw [← hj]; exact g.c2
  · obtain ⟨i, rfl⟩ : ∃ i, j = 3 + i := ⟨j - 3, by omega⟩
    rw [gridL_at _ _ _ _ i (by omega)] at hj
    have : v = .bool (bl i) := (Option.some.inj hj).symm
    rw [this]
    exact g.cs i (by omega)
theorem gridAt_range {w : World} {b : Nat} {W H V : Int} {bl : Nat → Bool} (h : w.rangeAt b 0 (gridL W H V bl)) (w1 : 1 ≤ W) (w2 : W ≤ 16) (h1 : 1 ≤ H) (h2 : H ≤ 16) : GridAt w b W H V bl := by
  have at_ : ∀ j v, (gridL W H V bl)[j]? = some v → w.cell? ⟨b, j, none⟩ = some v := fun j v hj => by have := h j v hj; rw [Nat.zero_add] at this; exact this
  refine ⟨w1, w2, h1, h2, at_ 0 _ ?_, at_ 1 _ ?_, at_ 2 _ ?_, fun i hi => at_ (3 + i) _ (gridL_at W H V bl i hi)⟩
  · unfold gridL; rw [List.getElem?_append_left (by simp)]; rfl
  · unfold gridL; rw [List.getElem?_append_left (by simp)]; rfl
  · unfold gridL; rw [List.getElem?_append_left (by simp)]; rfl
theorem gridC_size (W H : Int) : (gridC W H).size = 259 := by unfold gridC; simp
theorem there_new (w : World) : (w.alloc (.cells (gridC 0 0) 90)).there w.heap.size 0 259 := by
  intro j hj
  rw [Nat.zero_add, World.cell?_alloc_new, Array.getElem?_eq_getElem (by rw [gridC_size]; exact hj)]
  exact ⟨rfl, free_alloc w _ _ _ (Nat.le_refl _) j⟩
theorem below_setCells {B : Nat} {a : World} (b : Nat) (hb : B ≤ b) : ∀ (vs : List Value) (o : Nat) {w : World}, Below B a w → Below B a (w.setCells b o vs)
  | [], _, _, h => h
  | v :: r, o, _, h => below_setCells b hb r (o + 1) (h.setCell (p := ⟨b, o, none⟩) hb v)
theorem lt_of_cellG {w : World} {b o : Nat} {v : Value} (h : w.cell? ⟨b, o, none⟩ = some v) : b < w.heap.size := by
  by_cases hb : b < w.heap.size
  · exact hb
  · unfold World.cell? at h
    rw [Array.getElem?_eq_none (by simpa using hb)] at h
    simp at h
theorem info65 : (Tryd.prog.info? 90).map (·.size) = some 259 := by kernel_rfl

set_option maxHeartbeats 400000 in
theorem copy_any {b : Nat} {W H V : Int} {bl : Nat → Bool} (w : World) (g : GridAt w b W H V bl) :
    Calls Tryd.prog 49 #[.pointer (some ⟨b, 0, none⟩)] w fun e w' => e = .returned (.pointer (some ⟨w.heap.size, 0, none⟩)) ∧ Below w.heap.size w w' ∧ w.heap.size < w'.heap.size ∧ GridAt w' w.heap.size W H V bl ∧ Free w' w.heap.size := by
  have hr := g.range
  have hl := gridL_len W H V bl
  have h1 := gridL_one W H V bl
  have w1 := g.w1
  have w2 := g.w2
  have h3 := g.h1
  have h4 := g.h2
  have ht := there_new w
  have hB : Below w.heap.size w ((w.alloc (.cells (gridC 0 0) 90)).setCells w.heap.size 0 (gridL W H V bl)) := below_setCells _ (Nat.le_refl _) _ _ ((Below.refl _ _).alloc (Nat.le_refl _) _)
  have hG : GridAt ((w.alloc (.cells (gridC 0 0) 90)).setCells w.heap.size 0 (gridL W H V bl)) w.heap.size W H V bl := gridAt_range (World.rangeAt_setCells_same _ _ _ _ (by rw [hl]; exact ht)) w1 w2 h3 h4
  have hF : Free ((w.alloc (.cells (gridC 0 0) 90)).setCells w.heap.size 0 (gridL W H V bl)) w.heap.size := fun o => by rw [World.frozen?_setCells]; exact free_alloc w _ _ _ (Nat.le_refl _) o
  have hZ : w.heap.size < ((w.alloc (.cells (gridC 0 0) 90)).setCells w.heap.size 0 (gridL W H V bl)).heap.size := lt_of_cellG hG.c0
  clear w1 w2 h3 h4 g
  generalize gridL W H V bl = cs at *
  go_enter Tryd.func49, Tryd.ntmps49
  go_wp2_with (first | (refine wpList_load_mid rfl 90 _ rfl b 0 rfl cs _ hr Tryd.underlying90 rfl (by rw [hl]; exact info65) ?_) | (refine wpList_alloc65 rfl rfl ?_) | (refine wpList_store_mid rfl 90 _ _ rfl w.heap.size 0 cs.toArray rfl rfl (by simpa [hl] using ht) (by simpa [hl] using info65) (all_oneCell_toArray h1) ?_))
  go_ret
  exact ⟨rfl, hB, hZ, hG, hF⟩

/-- two numbers in the block that was made last -/
theorem row_two (w : World) (a b : Nat) : OldRow (w.alloc (.cells #[.int .i64 (a : Int), .int .i64 (b : Int)] 3)) (some ⟨w.heap.size, 0, none⟩) 2 (fun i => (([a, b].getD i 0 : Nat) : Int)) := fun i hi => by
  refine ⟨_, _, rfl, by simp, ?_⟩
  rw [Nat.zero_add, World.cell?_alloc_new]
  have hc : i = 0 ∨ i = 1 := by omega
  rcases hc with rfl | rfl <;> rfl

end Go.Proofs.YtfhicijgpdpfpaaDoor
/-
  A flood from a cell; what a cell costs in it; how many have been reached.
-/
namespace Go.Proofs.YtfhicijgpdpfpaaDoor
open Go.RowKit

/-- a flood that was made anew -/
def Flooded (w w' : World) (e : Ending) (W H V : Int) (bl : Nat → Bool) (o : Int) : Prop :=
  ∃ fb gb cb F, e = .returned (.tuple #[.pointer (some ⟨fb, 0, none⟩), .nilIface]) ∧ FloodAt w' fb gb cb W H V bl F (cnt F (W * H).toNat) ∧ Best (Edge W H bl) o F ∧ w.heap.size ≤ fb ∧ w.heap.size ≤ gb ∧ w.heap.size ≤ cb ∧ Below w.heap.size w w'

set_option maxHeartbeats 400000 in
theorem from_out {b : Nat} {W H V : Int} {bl : Nat → Bool} (c : Int) (w : World) (g : GridAt w b W H V bl) (hr : inB W H c = false) :
    Calls Tryd.prog 14 #[.pointer (some ⟨b, 0, none⟩), .int .i64 c] w fun e w' => e = .returned (.tuple #[.pointer none, .iface 78 (.int .i64 1)]) ∧ ∃ m, w' = w.drewN m := by
  go_enter Tryd.func14, Tryd.ntmps14
  go_wp2_with (go_at_call 45; refine (check_out c _ g hr).mono ?_; rintro e w' ⟨rfl, m, rfl⟩)
  go_ret2
  exact ⟨rfl, _, rfl⟩

set_option maxHeartbeats 400000 in
theorem from_bl {b : Nat} {W H V : Int} {bl : Nat → Bool} (c : Nat) (w : World) (g : GridAt w b W H V bl) (hr : inB W H c = true) (hb : bl c = true) :
    Calls Tryd.prog 14 #[.pointer (some ⟨b, 0, none⟩), .int .i64 c] w fun e w' => e = .returned (.tuple #[.pointer none, .iface 78 (.int .i64 4)]) ∧ ∃ m, w' = w.drewN m := by
  go_enter Tryd.func14, Tryd.ntmps14
  go_wp2_with (go_at_call 45; refine (check_bl c _ g hr hb).mono ?_; rintro e w' ⟨rfl, m, rfl⟩)
  go_ret2
  exact ⟨rfl, _, rfl⟩

set_option maxHeartbeats 1000000 in
theorem from_ok {b : Nat} {W H V : Int} {bl : Nat → Bool} (c : Nat) (w : World) (g : GridAt w b W H V bl) (s : StepsAt w) (hr : inB W H c = true) (hb : bl c = false) :
    Calls Tryd.prog 14 #[.pointer (some ⟨b, 0, none⟩), .int .i64 c] w fun e w' => Flooded w w' e W H V bl c := by
  have hmm := @run_makeMap Tryd.prog
  go_enter Tryd.func14, Tryd.ntmps14
  go_wp2_with (go_at_call 45; refine (check_ok c _ g hr hb).mono ?_; rintro e w' ⟨rfl, m, rfl⟩)
  have gm : GridAt (w.drewN m) b W H V bl := g.drewN m
  refine (copy_any _ gm).mono ?_
  rintro e wa ⟨rfl, hba, hza, ga, _⟩
  have hba' : Below w.heap.size w wa := ⟨hba.os, hba.tape, hba.output, hba.size, hba.block⟩
  have sa := s.below hba' s.pos
  have ga' : GridAt wa w.heap.size W H V bl := ga
  have hza' : w.heap.size < wa.heap.size := hza
  clear hba hza ga gm
  go_wp2_with fail
  have HB : Below wa.heap.size wa ((wa.alloc (.map #[] 0)).alloc (.cells #[.pointer (some ⟨w.heap.size, 0, none⟩), .map (some wa.heap.size)] 87)) := ((Below.refl _ _).alloc (Nat.le_refl _) _).alloc (by simp) _
  have FA : FloodAt ((wa.alloc (.map #[] 0)).alloc (.cells #[.pointer (some ⟨w.heap.size, 0, none⟩), .map (some wa.heap.size)] 87)) (wa.heap.size + 1) w.heap.size wa.heap.size W H V bl (fun _ => none) 0 :=
    ⟨World.cell?_alloc_at #[.pointer (some ⟨w.heap.size, 0, none⟩), .map (some wa.heap.size)] 87 (wa.heap.size + 1) 0 (by simp), World.cell?_alloc_at #[.pointer (some ⟨w.heap.size, 0, none⟩), .map (some wa.heap.size)] 87 (wa.heap.size + 1) 1 (by simp), ga'.below HB hza', (MapF.made wa Tryd.prog 3).keep (F := fun _ => False) ((Keep.refl _ _).alloc _) id, sa.below HB sa.pos⟩
  have HB2 := hba'.alloc (by omega) (.map #[] 0)
  have HB3 := HB2.alloc (by simp; omega) (.cells #[.pointer (some ⟨w.heap.size, 0, none⟩), .map (some wa.heap.size)] 87)
  have hsz : w.heap.size ≤ ((wa.alloc (.map #[] 0)).alloc (.cells #[.pointer (some ⟨w.heap.size, 0, none⟩), .map (some wa.heap.size)] 87)).heap.size := by simp; omega
  refine (spread_any c _ FA hr).mono ?_
  rintro e wb ⟨rfl, F, FB, BB, KB⟩
  have HBL : Below w.heap.size w wb := HB3.trans (KB.to_below hsz (fun k hk => by omega))
  clear FA HB HB2 HB3 KB
  go_wp2
  go_ret2
  exact ⟨_, _, _, F, rfl, FB, BB, by omega, by omega, by omega, HBL⟩

theorem slot0 (w : World) : Below w.heap.size w (w.alloc (.cells #[.int .i64 0, .int .i64 0] 31)) := (Below.refl _ _).alloc (Nat.le_refl _) _
theorem slotW (w : World) {w1 : World} {m : Nat} (h : w1 = (w.alloc (.cells #[.int .i64 0, .int .i64 0] 31)).drewN m) :
    w1.cell? ⟨w.heap.size, 0, none⟩ = some (.int .i64 0) ∧ w1.cell? ⟨w.heap.size, 1, none⟩ = some (.int .i64 0) ∧ w1.frozen? ⟨w.heap.size, 0, none⟩ = false ∧ w1.frozen? ⟨w.heap.size, 1, none⟩ = false ∧ w1.heap.size = w.heap.size + 1 ∧ Below w.heap.size w w1 := by
  subst h
  have hB := slot0 w
  refine ⟨World.cell?_alloc_at #[.int .i64 0, .int .i64 0] 31 w.heap.size 0 rfl, World.cell?_alloc_at #[.int .i64 0, .int .i64 0] 31 w.heap.size 1 rfl, free_alloc w #[.int .i64 0, .int .i64 0] 31 w.heap.size (Nat.le_refl _) 0, free_alloc w #[.int .i64 0, .int .i64 0] 31 w.heap.size (Nat.le_refl _) 1, by simp, ⟨hB.os, hB.tape, hB.output, hB.size, hB.block⟩⟩

set_option maxHeartbeats 400000 in
theorem fcost_out {fb gb cb n : Nat} {W H V : Int} {bl : Nat → Bool} {F : Int → Option (Int × Int)} (c : Int) (w : World) (f : FloodAt w fb gb cb W H V bl F n) (hr : inB W H c = false) :
    Calls Tryd.prog 18 #[.pointer (some ⟨fb, 0, none⟩), .int .i64 c] w fun e w' => e = .returned (.tuple #[.agg #[.int .i64 0, .int .i64 0], .iface 78 (.int .i64 1)]) ∧ Below w.heap.size w w' := by
  have p0 := f.p0
  have hfb := f.blocks.1
  go_enter Tryd.func18, Tryd.ntmps18
  go_wp2_with (go_at_call 53; refine (free_out c _ (f.ga.below (slot0 w) f.blocks.2.1) hr).mono ?_; rintro e w1 ⟨rfl, m, hm⟩; obtain ⟨b0, b1, f0, f1, hsz, HB⟩ := slotW w hm; have q1 := (f.below HB).p1; clear hm; skip)
  refine bodyPost_ret (v := .tuple #[.agg #[.int .i64 0, .int .i64 0], .iface 78 (.int .i64 1)]) (by simp [results, Tryd.results18, go_sem, b0, b1]) rfl ⟨rfl, ?_⟩
  exact (HB.setCell (p := ⟨w.heap.size, 0, none⟩) (Nat.le_refl _) _).setCell (p := ⟨w.heap.size, 1, none⟩) (Nat.le_refl _) _

set_option maxHeartbeats 400000 in
theorem fcost_some {fb gb cb n : Nat} {W H V : Int} {bl : Nat → Bool} {F : Int → Option (Int × Int)} (c : Nat) {s d : Int} (w : World) (f : FloodAt w fb gb cb W H V bl F n) (hr : inB W H c = true) (hF : F c = some (s, d)) :
    Calls Tryd.prog 18 #[.pointer (some ⟨fb, 0, none⟩), .int .i64 c] w fun e w' => e = .returned (.tuple #[.agg #[.int .i64 s, .int .i64 d], .nilIface]) ∧ Below w.heap.size w w' := by
  have p0 := f.p0
  have hfb := f.blocks.1
  have hwc := wf_cell f.ga.w1 f.ga.w2 f.ga.h1 f.ga.h2 hr
  go_enter Tryd.func18, Tryd.ntmps18
  go_wp2_with (go_at_call 53; refine (free_in c _ (f.ga.below (slot0 w) f.blocks.2.1) hr).mono ?_; rintro e w1 ⟨rfl, m, hm⟩; obtain ⟨b0, b1, f0, f1, hsz, HB⟩ := slotW w hm; have q1 := (f.below HB).p1; clear hm; have l1 := (f.below HB).mp.look_some law3 Tryd.under113 (zero43 _) hwc (fv_some hF) true)
  refine bodyPost_ret (v := .tuple #[.agg #[.int .i64 s, .int .i64 d], .nilIface]) (by simp [results, Tryd.results18, go_sem, b0, b1, hsz]) rfl ⟨rfl, ?_⟩
  exact ((HB.setCell (p := ⟨w.heap.size, 0, none⟩) (Nat.le_refl _) _).setCell (p := ⟨w.heap.size, 1, none⟩) (Nat.le_refl _) _).alloc (by simp; omega) _

set_option maxHeartbeats 400000 in
theorem fcost_none {fb gb cb n : Nat} {W H V : Int} {bl : Nat → Bool} {F : Int → Option (Int × Int)} (c : Nat) (w : World) (f : FloodAt w fb gb cb W H V bl F n) (hr : inB W H c = true) (hF : F c = none) :
    Calls Tryd.prog 18 #[.pointer (some ⟨fb, 0, none⟩), .int .i64 c] w fun e w' => e = .returned (.tuple #[.agg #[.int .i64 0, .int .i64 0], .iface 78 (.int .i64 5)]) ∧ Below w.heap.size w w' := by
  have p0 := f.p0
  have hfb := f.blocks.1
  have hwc := wf_cell f.ga.w1 f.ga.w2 f.ga.h1 f.ga.h2 hr
  go_enter Tryd.func18, Tryd.ntmps18
  go_wp2_with (go_at_call 53; refine (free_in c _ (f.ga.below (slot0 w) f.blocks.2.1) hr).mono ?_; rintro e w1 ⟨rfl, m, hm⟩; obtain ⟨b0, b1, f0, f1, hsz, HB⟩ := slotW w hm; have q1 := (f.below HB).p1; clear hm; have l1 := (f.below HB).mp.look_none law3 Tryd.under113 (zero43 _) hwc (fv_none hF) true)
  refine bodyPost_ret (v := .tuple #[.agg #[.int .i64 0, .int .i64 0], .iface 78 (.int .i64 5)]) (by simp [results, Tryd.results18, go_sem, b0, b1, hsz]) rfl ⟨rfl, ?_⟩
  exact ((HB.setCell (p := ⟨w.heap.size, 0, none⟩) (Nat.le_refl _) _).setCell (p := ⟨w.heap.size, 1, none⟩) (Nat.le_refl _) _).alloc (by simp; omega) _

set_option maxHeartbeats 400000 in
theorem reached_any {fb gb cb n : Nat} {W H V : Int} {bl : Nat → Bool} {F : Int → Option (Int × Int)} (w : World) (f : FloodAt w fb gb cb W H V bl F n) :
    Calls Tryd.prog 21 #[.pointer (some ⟨fb, 0, none⟩)] w fun e w' => e = .returned (.int .i64 n) ∧ w' = w := by
  have p1 := f.p1
  have hl := fun ty => f.mp.len Tryd.under113 ty
  go_enter Tryd.func21, Tryd.ntmps21
  go_wp2
  go_ret
  exact ⟨rfl, rfl⟩

end Go.Proofs.YtfhicijgpdpfpaaDoor
/-
  The first direction that fits.
-/
namespace Go.Proofs.YtfhicijgpdpfpaaDoor
open Go.RowKit

/-- what 'find' tells: the first direction that may be gone and fits -/
def Found (q : Nat → Bool) (r : Int) (ok : Bool) : Prop := (ok = true ∧ ∃ d : Nat, d < 8 ∧ r = d ∧ q d = true ∧ ∀ e, e < d → q e = false) ∨ (ok = false ∧ r = 0 ∧ ∀ e, e < 8 → q e = false)
def FoundAt (w w' : World) (e : Ending) (q : Nat → Bool) : Prop := ∃ r ok, e = .returned (.tuple #[.int .i64 r, .bool ok]) ∧ Found q r ok ∧ Below w.heap.size w w'

theorem may_b {b : Nat} {W H V x y : Int} {bl : Nat → Bool} {d : Nat} {r : Bool} (hr : mayB W H bl x y d = r) (w : World) (g : GridAt w b W H V bl) (s : StepsAt w) (hd : d < 8) (x1 : -100 ≤ x) (x2 : x ≤ 100) (y1 : -100 ≤ y) (y2 : y ≤ 100) :
    Calls Tryd.prog 90 #[.pointer (some ⟨b, 0, none⟩), .int .i64 x, .int .i64 y, .int .i64 d] w fun e w' => e = .returned (.bool r) ∧ Below w.heap.size w w' :=
  (may_v hr w g s hd x1 x2 y1 y2).mono fun _ _ ⟨he, m, hm⟩ => ⟨he, by subst hm; exact below_drewN (Below.refl _ _) m⟩

set_option maxHeartbeats 1000000 in
set_option maxRecDepth 1000000 in
theorem find_btw {b : Nat} {c1 c2 c3 : Value} {W H V x y : Int} {bl : Nat → Bool} (c : Nat) (hx : (c : Int) % W = x) (hy : (c : Int) / W = y) (p : Nat → Bool) (w : World) (g : GridAt w b W H V bl) (s : StepsAt w) (hb : b < w.heap.size) (hr : inB W H c = true)
    (hP : ∀ d, d < 8 → mayB W H bl x y d = true → ∀ w', Below w.heap.size w w' → Calls Tryd.prog 76 #[.int .i64 (d : Int), c1, c2, c3] w' fun e w'' => e = .returned (.bool (p d)) ∧ Below w'.heap.size w' w'') :
    Calls Tryd.prog 75 #[.pointer (some ⟨b, 0, none⟩), .int .i64 c, .func (.func 76) #[] #[c1, c2, c3]] w fun e w' => FoundAt w w' e (fun d => mayB W H bl x y d && p d) := by
  have hcc : 0 ≤ (c : Int) ∧ (c : Int) < W * H := of_decide_eq_true hr
  have w1 := g.w1
  have w2 := g.w2
  have h1 := g.h1
  have h2 := g.h2
  obtain ⟨k1, k2⟩ := wh_bd w1 w2 h1 h2
  have m1 := Int.emod_nonneg (c : Int) (show W ≠ 0 by omega)
  have m3 := Int.emod_lt_of_pos (c : Int) (show 0 < W by omega)
  have d1 : 0 ≤ (c : Int) / W := Int.ediv_nonneg (by omega) (by omega)
  have d3 : (c : Int) / W < H := Int.ediv_lt_of_lt_mul (by omega) (by rw [Int.mul_comm]; exact hcc.2)
  have hpl := place_in (c : Int) _ g hr
  rw [hx] at m1 m3 hpl
  rw [hy] at d1 d3 hpl
  clear hx hy
  go_enter Tryd.func75, Tryd.ntmps75
  go_wp2_with (go_at_call 63; refine hpl.mono ?_; rintro e w' ⟨rfl, m, rfl⟩)
  have HB0 : Below w.heap.size w (w.drewN m) := below_drewN (Below.refl _ _) m
  generalize w.drewN m = w0 at *
  go_loopg [21] 8 (fun gk dv wr => ∃ d : Nat, d ≤ 8 ∧ gk = 8 - d ∧ dv = .int .i64 d ∧ Below w.heap.size w wr ∧ ∀ e, e < d → (mayB W H bl x y e && p e) = false)
  case atStart => exact ⟨0, by omega, rfl, rfl, HB0, fun e h => by omega⟩
  case round =>
    obtain ⟨d, hd8, hgd, rfl, HB, hno⟩ := hrel
    have HG : Hid (gk = 8 - d) := hgd
    have HN : Hid (∀ e, e < d → (mayB W H bl x y e && p e) = false) := hno
    clear hgd hno
    have gr := g.below HB hb
    have sr := s.below HB s.pos
    by_cases hlt : d < 8
    · have hlt' : (d : Int) < 8 := by omega
      cases hm : mayB W H bl x y d with
      | false =>
        go_wp2_with (go_at_call 90; refine (may_b hm _ gr sr hlt (by omega) (by omega) (by omega) (by omega)).mono ?_; rintro e w1 ⟨rfl, hb1⟩)
        go_roundg (8 - (d + 1))
        case measure => have := HG.out; omega
        case rel =>
          refine ⟨d + 1, by omega, rfl, by go_num, HB.trans (hb1.mono HB.size), fun e he => ?_⟩
          by_cases h : e = d
          · subst h; rw [hm]; rfl
          · exact HN.out e (by omega)
      | true =>
        have hp := hP d hlt hm
        go_wp2_with (go_at_call 90; refine (may_b hm _ gr sr hlt (by omega) (by omega) (by omega) (by omega)).mono ?_; rintro e w1 ⟨rfl, hb1⟩)
        refine (hp _ (HB.trans (hb1.mono HB.size))).mono ?_
        rintro e w2 ⟨rfl, hb2⟩
        have HB2 := (HB.trans (hb1.mono HB.size)).trans (hb2.mono (HB.trans (hb1.mono HB.size)).size)
        cases hpd : p d with
        | true =>
          go_wp2
          go_ret2
          refine ⟨_, _, rfl, Or.inl ⟨rfl, d, hlt, rfl, ?_, HN.out⟩, HB2⟩
          show (mayB W H bl x y d && p d) = true
          rw [hm, hpd]; rfl
        | false =>
          go_wp2
          go_roundg (8 - (d + 1))
          case measure => have := HG.out; omega
          case rel =>
            refine ⟨d + 1, by omega, rfl, by go_num, HB2, fun e he => ?_⟩
            by_cases h : e = d
            · subst h; rw [hm, hpd]; rfl
            · exact HN.out e (by omega)
    · have : d = 8 := by omega
      subst this
      go_wp2
      go_ret2
      exact ⟨_, _, rfl, Or.inr ⟨rfl, rfl, HN.out⟩, HB⟩

set_option maxHeartbeats 1000000 in
set_option maxRecDepth 1000000 in
theorem find_back {b : Nat} {c1 c2 : Value} {W H V x y : Int} {bl : Nat → Bool} (c : Nat) (hx : (c : Int) % W = x) (hy : (c : Int) / W = y) (p : Nat → Bool) (w : World) (g : GridAt w b W H V bl) (s : StepsAt w) (hb : b < w.heap.size) (hr : inB W H c = true)
    (hP : ∀ d, d < 8 → mayB W H bl x y d = true → ∀ w', Below w.heap.size w w' → Calls Tryd.prog 84 #[.int .i64 (d : Int), c1, c2] w' fun e w'' => e = .returned (.bool (p d)) ∧ Below w'.heap.size w' w'') :
    Calls Tryd.prog 75 #[.pointer (some ⟨b, 0, none⟩), .int .i64 c, .func (.func 84) #[] #[c1, c2]] w fun e w' => FoundAt w w' e (fun d => mayB W H bl x y d && p d) := by
  have hcc : 0 ≤ (c : Int) ∧ (c : Int) < W * H := of_decide_eq_true hr
  have w1 := g.w1
  have w2 := g.w2
  have h1 := g.h1
  have h2 := g.h2
  obtain ⟨k1, k2⟩ := wh_bd w1 w2 h1 h2
  have m1 := Int.emod_nonneg (c : Int) (show W ≠ 0 by omega)
  have m3 := Int.emod_lt_of_pos (c : Int) (show 0 < W by omega)
  have d1 : 0 ≤ (c : Int) / W := Int.ediv_nonneg (by omega) (by omega)
  have d3 : (c : Int) / W < H := Int.ediv_lt_of_lt_mul (by omega) (by rw [Int.mul_comm]; exact hcc.2)
  have hpl := place_in (c : Int) _ g hr
  rw [hx] at m1 m3 hpl
  rw [hy] at d1 d3 hpl
  clear hx hy
  go_enter Tryd.func75, Tryd.ntmps75
  go_wp2_with (go_at_call 63; refine hpl.mono ?_; rintro e w' ⟨rfl, m, rfl⟩)
  have HB0 : Below w.heap.size w (w.drewN m) := below_drewN (Below.refl _ _) m
  generalize w.drewN m = w0 at *
  go_loopg [21] 8 (fun gk dv wr => ∃ d : Nat, d ≤ 8 ∧ gk = 8 - d ∧ dv = .int .i64 d ∧ Below w.heap.size w wr ∧ ∀ e, e < d → (mayB W H bl x y e && p e) = false)
  case atStart => exact ⟨0, by omega, rfl, rfl, HB0, fun e h => by omega⟩
  case round =>
    obtain ⟨d, hd8, hgd, rfl, HB, hno⟩ := hrel
    have HG : Hid (gk = 8 - d) := hgd
    have HN : Hid (∀ e, e < d → (mayB W H bl x y e && p e) = false) := hno
    clear hgd hno
    have gr := g.below HB hb
    have sr := s.below HB s.pos
    by_cases hlt : d < 8
    · have hlt' : (d : Int) < 8 := by omega
      cases hm : mayB W H bl x y d with
      | false =>
        go_wp2_with (go_at_call 90; refine (may_b hm _ gr sr hlt (by omega) (by omega) (by omega) (by omega)).mono ?_; rintro e w1 ⟨rfl, hb1⟩)
        go_roundg (8 - (d + 1))
        case measure => have := HG.out; omega
        case rel =>
          refine ⟨d + 1, by omega, rfl, by go_num, HB.trans (hb1.mono HB.size), fun e he => ?_⟩
          by_cases h : e = d
          · subst h; rw [hm]; rfl
          · exact HN.out e (by omega)
      | true =>
        have hp := hP d hlt hm
        go_wp2_with (go_at_call 90; refine (may_b hm _ gr sr hlt (by omega) (by omega) (by omega) (by omega)).mono ?_; rintro e w1 ⟨rfl, hb1⟩)
        refine (hp _ (HB.trans (hb1.mono HB.size))).mono ?_
        rintro e w2 ⟨rfl, hb2⟩
        have HB2 := (HB.trans (hb1.mono HB.size)).trans (hb2.mono (HB.trans (hb1.mono HB.size)).size)
        cases hpd : p d with
        | true =>
          go_wp2
          go_ret2
          refine ⟨_, _, rfl, Or.inl ⟨rfl, d, hlt, rfl, ?_, HN.out⟩, HB2⟩
          show (mayB W H bl x y d && p d) = true
          rw [hm, hpd]; rfl
        | false =>
          go_wp2
          go_roundg (8 - (d + 1))
          case measure => have := HG.out; omega
          case rel =>
            refine ⟨d + 1, by omega, rfl, by go_num, HB2, fun e he => ?_⟩
            by_cases h : e = d
            · subst h; rw [hm, hpd]; rfl
            · exact HN.out e (by omega)
    · have : d = 8 := by omega
      subst this
      go_wp2
      go_ret2
      exact ⟨_, _, rfl, Or.inr ⟨rfl, rfl, HN.out⟩, HB⟩
end Go.Proofs.YtfhicijgpdpfpaaDoor
/-
  What the walk of 'TopFlood' needs of ways.
-/
namespace Go.Proofs.YtfhicijgpdpfpaaDoor
open Go.RowKit

theorem cells_b {b : Nat} {W H V : Int} {bl : Nat → Bool} (w : World) (g : GridAt w b W H V bl) :
    Calls Tryd.prog 23 #[.pointer (some ⟨b, 0, none⟩)] w fun e w' => e = .returned (.int .i64 (W * H)) ∧ Below w.heap.size w w' :=
  (cells_any w g).mono fun _ _ ⟨he, m, hm⟩ => ⟨he, by subst hm; exact below_drewN (Below.refl _ _) m⟩
theorem to_b {b : Nat} {W H V c r : Int} {bl : Nat → Bool} {d : Nat} (hr : c + (stepY d * W + stepX d) = r) (w : World) (g : GridAt w b W H V bl) (s : StepsAt w) (hd : d < 8) (c1 : -1000 ≤ c) (c2 : c ≤ 1000) :
    Calls Tryd.prog 25 #[.pointer (some ⟨b, 0, none⟩), .int .i64 c, .int .i64 d] w fun e w' => e = .returned (.int .i64 r) ∧ Below w.heap.size w w' :=
  (to_v hr w g s hd c1 c2).mono fun _ _ ⟨he, m, hm⟩ => ⟨he, by subst hm; exact below_drewN (Below.refl _ _) m⟩

theorem oct_low {W H : Int} {bl : Nat → Bool} {o a s d : Int} (w1 : 1 ≤ W) (h : Wk (Edge W H bl) o a s d) :
    val (dst (dst (o % W) (a % W)) (dst (o / W) (a / W))) (les (dst (o % W) (a % W)) (dst (o / W) (a / W))) ≤ val s d := by
  refine h.ind (R := fun a s d => val (dst (dst (o % W) (a % W)) (dst (o / W) (a / W))) (les (dst (o % W) (a % W)) (dst (o / W) (a / W))) ≤ val s d) ?_ (fun a s d k b _ ih e => ?_)
  · unfold dst les val
    simp
  · obtain ⟨h1, h2, h3, h4⟩ := e
    obtain ⟨_, o2, _, _⟩ := may_parts h3
    obtain ⟨a1, a2, a3, a4⟩ := open_in o2
    have e : a + (stepY k * W + stepX k) = (a / W + stepY k) * W + (a % W + stepX k) := by
      have := cell_eq W a
      rw [Int.add_mul]
      omega
    obtain ⟨p1, p2, p3⟩ := place_to (H := H) w1 a1 a2 a3 a4
    rw [h4, e, p2, p3]
    clear e p1 p2 p3 a1 a2 a3 a4 o2 h3 h4 h2
    rw [val_add]
    generalize o % W = ox at *
    generalize o / W = oy at *
    generalize a % W = ax at *
    generalize a / W = ay at *
    have hks : k = 0 ∨ k = 1 ∨ k = 2 ∨ k = 3 ∨ k = 4 ∨ k = 5 ∨ k = 6 ∨ k = 7 := by omega
    have hst : stepX k = 0 ∧ stepY k = -1 ∧ stS k = 1 ∧ stD k = 0 ∨ stepX k = 0 ∧ stepY k = 1 ∧ stS k = 1 ∧ stD k = 0 ∨ stepX k = 1 ∧ stepY k = 0 ∧ stS k = 1 ∧ stD k = 0 ∨ stepX k = -1 ∧ stepY k = 0 ∧ stS k = 1 ∧ stD k = 0 ∨ (stepX k = 1 ∨ stepX k = -1) ∧ (stepY k = 1 ∨ stepY k = -1) ∧ stS k = 0 ∧ stD k = 1 := by
      rcases hks with rfl | rfl | rfl | rfl | rfl | rfl | rfl | rfl <;> decide
    refine Int.le_trans ?_ (Int.add_le_add_right ih _)
    clear ih hks h1
    unfold val dst les
    split <;> split <;> split <;> split <;> split <;> split <;> (try split) <;> (try split) <;> omega

theorem Best.sym {W H : Int} {bl : Nat → Bool} {o c : Int} {F G : Int → Option (Int × Int)} (w1 : 1 ≤ W) (hF : Best (Edge W H bl) o F) (hG : Best (Edge W H bl) c G) {s d : Int} (h : F c = some (s, d)) : G o = some (s, d) := by
  obtain ⟨s', d', h1, h2⟩ := hG.least ((hF.sound h).back (Edge.back w1))
  obtain ⟨s2, d2, h3, h4⟩ := hF.least ((hG.sound h1).back (Edge.back w1))
  rw [h] at h3
  cases h3
  obtain ⟨a1, a2, a3⟩ := hF.small h
  obtain ⟨b1, b2, b3⟩ := hG.small h1
  have c1 := val_small a1 a2 a3
  have c2 := val_small b1 b2 b3
  obtain ⟨e1, e2⟩ := val_inj s' d' s d (by omega) (by omega) (by omega)
  rw [h1, e1, e2]

theorem wk_free {W H : Int} {bl : Nat → Bool} {o a s d : Int} (ho : bl o.toNat = false) (h : Wk (Edge W H bl) o a s d) : bl a.toNat = false := by
  refine h.ind (R := fun a _ _ => bl a.toNat = false) ho (fun a s d k b _ _ e => ?_)
  obtain ⟨h1, h2, h3, h4⟩ := e
  obtain ⟨_, o2, _, _⟩ := may_parts h3
  have e : a + (stepY k * W + stepX k) = (a / W + stepY k) * W + (a % W + stepX k) := by
    have := cell_eq W a
    rw [Int.add_mul]
    omega
  rw [h4, e]
  unfold openB at o2
  rw [Bool.and_eq_true] at o2
  simpa using o2.2

theorem one_two {F : Int → Option (Int × Int)} (h : Best (Edge 2 1 (fun _ => false)) 0 F) : cnt F (2 * 1 : Int).toNat = 2 := by
  have h0 := h.home
  obtain ⟨s, d, h1, _⟩ := h.edge (k := 2) (b := 1) h0 ⟨by decide, by decide, by decide, by decide⟩
  show cnt F 2 = 2
  have e0 : F ((0 : Nat) : Int) = some (0, 0) := h0
  have e1 : F ((1 : Nat) : Int) = some (s, d) := h1
  unfold cnt cnt cnt
  rw [e0, e1]
  rfl

theorem wrap_small {x : Int} (h0 : 0 ≤ x) (h : x ≤ 1000) : IntKind.i64.wrap x = x := by unfold IntKind.wrap; simp [IntKind.bits, IntKind.signed]; omega
theorem near_small {x : Int} (h0 : 0 ≤ x) (h : x ≤ 1000) : nearB x := ⟨by omega, by omega⟩

set_option maxHeartbeats 2000000 in
set_option maxRecDepth 1000000 in
theorem topOct' {W a b ax ay bx by' cs cd : Int} (w : World) (hne : W ≠ 0) (t1 : Int.tmod a W = ax) (t2 : Int.tmod b W = bx) (t3 : Int.tdiv a W = ay) (t4 : Int.tdiv b W = by')
    (u3 : IntKind.i64.wrap ay = ay) (u4 : IntKind.i64.wrap by' = by')
    (ho : ∀ w, Calls Tryd.prog 62 #[.int .i64 ax, .int .i64 ay, .int .i64 bx, .int .i64 by'] w fun e w' => e = .returned (.agg #[.int .i64 cs, .int .i64 cd]) ∧ Below w.heap.size w w') :
    Calls Tryd.prog 28 #[.int .i64 W, .int .i64 a, .int .i64 b] w fun e w' => e = .returned (.agg #[.int .i64 cs, .int .i64 cd]) ∧ Below w.heap.size w w' := by
  go_enter Tryd.func28, Tryd.ntmps28
  go_wp2
  obtain ⟨c0, c1, f0, f1, hsz, HB⟩ := slotW w (m := 0) rfl
  rw [World.drewN_zero] at c0 c1 f0 f1 hsz HB
  generalize w.alloc (.cells #[.int .i64 0, .int .i64 0] 31) = W1 at *
  have c0 : W1.drew.cell? ⟨w.heap.size, 0, none⟩ = some (.int .i64 0) := c0
  have c1 : W1.drew.cell? ⟨w.heap.size, 1, none⟩ = some (.int .i64 0) := c1
  have f0 : W1.drew.frozen? ⟨w.heap.size, 0, none⟩ = false := f0
  have f1 : W1.drew.frozen? ⟨w.heap.size, 1, none⟩ = false := f1
  have HB : Below w.heap.size w W1.drew := ⟨HB.os, HB.tape, HB.output, HB.size, HB.block⟩
  have hsz : w.heap.size < W1.drew.heap.size := World.block_lt_of_cell? W1.drew _ c0
  go_region_with (first | (go_at_call 62; refine (ho _).mono ?_; rintro e w2 ⟨rfl, hb2⟩; have c0 := (hb2.cell (p := ⟨w.heap.size, 0, none⟩) hsz).trans c0; have c1 := (hb2.cell (p := ⟨w.heap.size, 1, none⟩) hsz).trans c1; have f0 := (hb2.frozen (p := ⟨w.heap.size, 0, none⟩) hsz).trans f0; have f1 := (hb2.frozen (p := ⟨w.heap.size, 1, none⟩) hsz).trans f1; have HB := HB.trans (hb2.mono HB.size)))
  have r0 := popCells w2 w.heap.size cs cd c0 c1
  clear ho
  go_wp2
  exact bodyPost_ret (v := .agg #[.int .i64 cs, .int .i64 cd]) (by simp [results, Tryd.results28, go_sem, r0.1, r0.2]) rfl ⟨rfl, (HB.setCell (p := ⟨w.heap.size, 0, none⟩) (Nat.le_refl _) _).setCell (p := ⟨w.heap.size, 1, none⟩) (Nat.le_refl _) _⟩

theorem topOct (W : Int) (a b : Nat) (w : World) (w1 : 1 ≤ W) (w2 : W ≤ 16) (ha : a < 1000) (hb : b < 1000) :
    Calls Tryd.prog 28 #[.int .i64 W, .int .i64 a, .int .i64 b] w fun e w' => e = .returned (.agg #[.int .i64 (dst (dst ((a : Int) % W) ((b : Int) % W)) (dst ((a : Int) / W) ((b : Int) / W))), .int .i64 (les (dst ((a : Int) % W) ((b : Int) % W)) (dst ((a : Int) / W) ((b : Int) / W)))]) ∧ Below w.heap.size w w' := by
  have t1 : Int.tmod (a : Int) W = (a : Int) % W := Int.tmod_eq_emod_of_nonneg (by omega)
  have t2 : Int.tmod (b : Int) W = (b : Int) % W := Int.tmod_eq_emod_of_nonneg (by omega)
  have t3 : Int.tdiv (a : Int) W = (a : Int) / W := Int.tdiv_eq_ediv_of_nonneg (by omega)
  have t4 : Int.tdiv (b : Int) W = (b : Int) / W := Int.tdiv_eq_ediv_of_nonneg (by omega)
  have m1 := Int.emod_nonneg (a : Int) (show W ≠ 0 by omega)
  have m2 := Int.emod_nonneg (b : Int) (show W ≠ 0 by omega)
  have m3 := Int.emod_lt_of_pos (a : Int) (show 0 < W by omega)
  have m4 := Int.emod_lt_of_pos (b : Int) (show 0 < W by omega)
  have d1 : 0 ≤ (a : Int) / W := Int.ediv_nonneg (by omega) (by omega)
  have d2 : 0 ≤ (b : Int) / W := Int.ediv_nonneg (by omega) (by omega)
  have d3 : (a : Int) / W ≤ a := Int.ediv_le_self _ (by omega)
  have d4 : (b : Int) / W ≤ b := Int.ediv_le_self _ (by omega)
  have hne : W ≠ 0 := by omega
  refine topOct' w hne t1 t2 t3 t4 (wrap_small (by omega) (by omega)) (wrap_small (by omega) (by omega)) (fun w => rOct_any _ _ _ _ w (near_small m1 (by omega)) (near_small d1 (by omega)) (near_small m2 (by omega)) (near_small d2 (by omega)))
end Go.Proofs.YtfhicijgpdpfpaaDoor
