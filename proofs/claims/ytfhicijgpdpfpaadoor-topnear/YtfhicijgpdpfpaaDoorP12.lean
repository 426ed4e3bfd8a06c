/-
  Texts laid together: Towards, BackF, BackA, Rev.
-/
import Derived.Test.YtfhicijgpdpfpaaDoorP11
import Derived.Deep.LoopGhost
import Derived.Deep.Light
/-
  Steps towards a cell: what 'isTowards' and 'onward' of package reach say.
-/
namespace Go.Proofs.YtfhicijgpdpfpaaDoor
open Go.RowKit

/-- does a step bring one nearer by what it costs? -/
def goodB (x y u v : Int) (k : Nat) : Bool := decide (dst (dst (x + stepX k) u) (dst (y + stepY k) v) + stS k = dst (dst x u) (dst y v)) && decide (les (dst (x + stepX k) u) (dst (y + stepY k) v) + stD k = les (dst x u) (dst y v))
theorem goodB_iff {x y u v : Int} {k : Nat} : goodB x y u v k = true ↔ Good x y u v k := by
  unfold goodB Good
  rw [Bool.and_eq_true, decide_eq_true_eq, decide_eq_true_eq]
theorem oct_step (k : Nat) (h : k < 8) : dst (dst 0 (stepX k)) (dst 0 (stepY k)) = stS k ∧ les (dst 0 (stepX k)) (dst 0 (stepY k)) = stD k := by
  rcases k8 h with rfl | rfl | rfl | rfl | rfl | rfl | rfl | rfl <;> decide

set_option maxHeartbeats 2000000 in
set_option maxRecDepth 1000000 in
theorem isTowards' {x y u v dx dy s1 d1 s2 d2 s3 d3 : Int} {k : Nat} {r : Bool} (w : World)
    (x1 : -100 ≤ x) (x2 : x ≤ 100) (y1 : -100 ≤ y) (y2 : y ≤ 100) (e1 : -1 ≤ dx) (e2 : dx ≤ 1) (e3 : -1 ≤ dy) (e4 : dy ≤ 1)
    (hs : Calls Tryd.prog 58 #[.int .i64 k] w fun e w' => e = .returned (.tuple #[.int .i64 dx, .int .i64 dy]) ∧ ∃ m, w' = w.drewN m)
    (ho1 : ∀ w, Calls Tryd.prog 77 #[.int .i64 0, .int .i64 0, .int .i64 dx, .int .i64 dy] w fun e w' => e = .returned (.agg #[.int .i64 s1, .int .i64 d1]) ∧ Below w.heap.size w w')
    (ho2 : ∀ w, Calls Tryd.prog 77 #[.int .i64 (x + dx), .int .i64 (y + dy), .int .i64 u, .int .i64 v] w fun e w' => e = .returned (.agg #[.int .i64 s2, .int .i64 d2]) ∧ Below w.heap.size w w')
    (ho3 : ∀ w, Calls Tryd.prog 77 #[.int .i64 x, .int .i64 y, .int .i64 u, .int .i64 v] w fun e w' => e = .returned (.agg #[.int .i64 s3, .int .i64 d3]) ∧ Below w.heap.size w w')
    (ha : ∀ w, Calls Tryd.prog 27 #[.agg #[.int .i64 s1, .int .i64 d1], .agg #[.int .i64 s2, .int .i64 d2]] w fun e w' => e = .returned (.agg #[.int .i64 (s1 + s2), .int .i64 (d1 + d2)]) ∧ Below w.heap.size w w')
    (hr : (decide (s1 + s2 = s3) && decide (d1 + d2 = d3)) = r) :
    Calls Tryd.prog 99 #[.int .i64 x, .int .i64 y, .int .i64 k, .int .i64 u, .int .i64 v] w fun e w' => e = .returned (.bool r) ∧ Below w.heap.size w w' := by
  go_enter Tryd.func99, Tryd.ntmps99
  go_wp2_with (go_at_call 58; refine hs.mono ?_; rintro e w' ⟨rfl, m, rfl⟩)
  refine (ho1 _).mono ?_
  rintro e w1 ⟨rfl, hb1⟩
  have B1 : Below w.heap.size w w1 := (below_drewN (Below.refl _ _) m).trans hb1
  clear hb1 ho1 hs
  go_wp2_with fail
  refine (ho2 _).mono ?_
  rintro e w2 ⟨rfl, hb2⟩
  have B2 : Below w.heap.size w w2 := B1.trans (hb2.mono B1.size)
  clear hb2 ho2 B1
  go_wp2_with fail
  refine (ha _).mono ?_
  rintro e w3 ⟨rfl, hb3⟩
  have B2' : Below w.heap.size w ((w2.alloc (.cells #[.int .i64 s1, .int .i64 d1] 31)).alloc (.cells #[.int .i64 s2, .int .i64 d2] 31)) := (B2.alloc B2.size _).alloc (by have := B2.size; simp; omega) _
  have B3 : Below w.heap.size w w3 := B2'.trans (hb3.mono B2'.size)
  clear hb3 ha B2 B2'
  go_wp2_with fail
  refine (ho3 _).mono ?_
  rintro e w4 ⟨rfl, hb4⟩
  have B4 : Below w.heap.size w w4 := B3.trans (hb4.mono B3.size)
  clear hb4 ho3 B3
  by_cases q1 : s1 + s2 = s3
  · by_cases q2 : d1 + d2 = d3
    · rw [decide_eq_true q1, decide_eq_true q2] at hr
      subst hr q1 q2
      go_wp2
      go_ret
      exact ⟨rfl, B4⟩
    · rw [decide_eq_true q1, decide_eq_false q2] at hr
      subst hr q1
      go_wp2
      go_ret
      exact ⟨rfl, B4⟩
  · rw [decide_eq_false q1] at hr
    subst hr
    go_wp2
    go_ret
    exact ⟨rfl, B4⟩

theorem near_place {a : Int} (h : -100 ≤ a) (k : a ≤ 100) : nearB a := by unfold nearB; omega
theorem okC_oct {x y u v : Int} (x1 : -100 ≤ x) (x2 : x ≤ 100) (y1 : -100 ≤ y) (y2 : y ≤ 100) (u1 : -100 ≤ u) (u2 : u ≤ 100) (v1 : -100 ≤ v) (v2 : v ≤ 100) : okC (dst (dst x u) (dst y v)) (les (dst x u) (dst y v)) := by
  unfold okC
  have a : 0 ≤ dst x u ∧ dst x u ≤ 200 := by unfold dst; split <;> omega
  have b : 0 ≤ dst y v ∧ dst y v ≤ 200 := by unfold dst; split <;> omega
  generalize dst x u = X at *
  generalize dst y v = Y at *
  unfold dst les
  split <;> omega
theorem okC_st (k : Nat) : okC (stS k) (stD k) := by
  have := st_bd k
  unfold okC
  omega

theorem isTowards_v {x y u v : Int} {k : Nat} {r : Bool} (hr : goodB x y u v k = r) (w : World) (s : StepsAt w) (hk : k < 8) (x1 : 0 ≤ x) (x2 : x ≤ 50) (y1 : 0 ≤ y) (y2 : y ≤ 50) (u1 : 0 ≤ u) (u2 : u ≤ 50) (v1 : 0 ≤ v) (v2 : v ≤ 50) :
    Calls Tryd.prog 99 #[.int .i64 x, .int .i64 y, .int .i64 k, .int .i64 u, .int .i64 v] w fun e w' => e = .returned (.bool r) ∧ Below w.heap.size w w' := by
  obtain ⟨e1, e2, e3, e4⟩ := step_bd k
  obtain ⟨o1, o2⟩ := oct_step k hk
  have n1 := near_place (show -100 ≤ stepX k by omega) (by omega)
  have n2 := near_place (show -100 ≤ stepY k by omega) (by omega)
  have n0 := near_place (show -100 ≤ (0 : Int) by omega) (by omega)
  have nx := near_place (show -100 ≤ x by omega) (by omega)
  have ny := near_place (show -100 ≤ y by omega) (by omega)
  have nu := near_place (show -100 ≤ u by omega) (by omega)
  have nv := near_place (show -100 ≤ v by omega) (by omega)
  have nx' := near_place (show -100 ≤ x + stepX k by omega) (by omega)
  have ny' := near_place (show -100 ≤ y + stepY k by omega) (by omega)
  refine isTowards' (s1 := stS k) (d1 := stD k) w (by omega) (by omega) (by omega) (by omega) e1 e2 e3 e4 (step_any k w s hk) (fun w => ?_) (fun w => oct_any _ _ _ _ w nx' ny' nu nv) (fun w => oct_any _ _ _ _ w nx ny nu nv) (fun w => add_any _ _ _ _ w (okC_st k) (okC_oct (by omega) (by omega) (by omega) (by omega) (by omega) (by omega) (by omega) (by omega))) ?_
  · have := oct_any 0 0 (stepX k) (stepY k) w n0 n0 n1 n2
    rw [o1, o2] at this
    exact this
  · rw [← hr]
    unfold goodB
    rw [Int.add_comm (stS k), Int.add_comm (stD k)]
end Go.Proofs.YtfhicijgpdpfpaaDoor
/-
  By which direction a cell was come to.
-/
namespace Go.Proofs.YtfhicijgpdpfpaaDoor
open Go.RowKit

/-- what the closure of 'back' reads -/
def BackEnv (w : World) (C1 C2 fb gb cb : Nat) (c r s d s' d' : Int) : Prop :=
  w.cell? ⟨C1, 0, none⟩ = some (.pointer (some ⟨fb, 0, none⟩)) ∧ w.cell? ⟨fb, 0, none⟩ = some (.pointer (some ⟨gb, 0, none⟩)) ∧ w.cell? ⟨fb, 1, none⟩ = some (.map (some cb)) ∧ w.cell? ⟨C2, 0, none⟩ = some (.int .i64 c) ∧
  (Instr.lookup 85 (.map (some cb)) (.int .i64 r) false).run Tryd.prog w = .ok (.agg #[.int .i64 s', .int .i64 d']) w ∧ (Instr.lookup 85 (.map (some cb)) (.int .i64 c) false).run Tryd.prog w = .ok (.agg #[.int .i64 s, .int .i64 d]) w

theorem backEnv {w : World} {C1 C2 fb gb cb n : Nat} {W H V c r s d s' d' : Int} {bl : Nat → Bool} {F : Int → Option (Int × Int)} (f : FloodAt w fb gb cb W H V bl F n) (hc : inB W H c = true) (hr : inB W H r = true) (hF : F c = some (s, d)) (hG : F r = some (s', d'))
    (c1 : w.cell? ⟨C1, 0, none⟩ = some (.pointer (some ⟨fb, 0, none⟩))) (c2 : w.cell? ⟨C2, 0, none⟩ = some (.int .i64 c)) : BackEnv w C1 C2 fb gb cb c r s d s' d' :=
  ⟨c1, f.p0, f.p1, c2, f.look1 (wf_cell f.ga.w1 f.ga.w2 f.ga.h1 f.ga.h2 hr) hG, f.look1 (wf_cell f.ga.w1 f.ga.w2 f.ga.h1 f.ga.h2 hc) hF⟩

set_option maxHeartbeats 2000000 in
set_option maxRecDepth 1000000 in
theorem back_fits {C1 C2 fb gb cb n : Nat} {W H V c r s d s' d' : Int} {bl : Nat → Bool} {F : Int → Option (Int × Int)} (k : Nat) (w : World) (f : FloodAt w fb gb cb W H V bl F n) (hk : k < 8) (hc : inB W H c = true) (hri : inB W H r = true) (hr : c + (stepY k * W + stepX k) = r) (hF : F c = some (s, d)) (hG : F r = some (s', d'))
    (hok : okC s' d')
    (c1 : w.cell? ⟨C1, 0, none⟩ = some (.pointer (some ⟨fb, 0, none⟩))) (c2 : w.cell? ⟨C2, 0, none⟩ = some (.int .i64 c)) :
    Calls Tryd.prog 84 #[.int .i64 k, .pointer (some ⟨C1, 0, none⟩), .pointer (some ⟨C2, 0, none⟩)] w fun e w' => e = .returned (.bool (s' + stS k == s && d' + stD k == d)) ∧ Below w.heap.size w w' := by
  have hcc : 0 ≤ c ∧ c < W * H := of_decide_eq_true hc
  obtain ⟨k1, k2⟩ := wh_bd f.ga.w1 f.ga.w2 f.ga.h1 f.ga.h2
  have hst := st_bd k
  have hokS : okC (stS k) (stD k) := by unfold okC; omega
  have fd : FloodAt w.drew fb gb cb W H V bl F n := f.below ⟨rfl, rfl, rfl, Nat.le_refl _, fun _ _ => rfl⟩
  have E := backEnv (C1 := C1) (C2 := C2) fd hc hri hF hG c1 c2
  have HB : Below w.heap.size w w.drew := ⟨rfl, rfl, rfl, Nat.le_refl _, fun _ _ => rfl⟩
  have cc1 : w.drew.cell? ⟨C1, 0, none⟩ = some (.pointer (some ⟨fb, 0, none⟩)) := c1
  have cc2 : w.drew.cell? ⟨C2, 0, none⟩ = some (.int .i64 c) := c2
  have hadd := fun w => add_any s' d' (stS k) (stD k) w hok hokS
  have hok' : okC s' d' := hok
  clear hok hokS hst
  generalize s' + stS k = A at *
  generalize d' + stD k = B at *
  by_cases e1 : A = s
  · obtain rfl : s = A := e1.symm
    by_cases e2 : B = d
    · obtain rfl : d = B := e2.symm
      go_enter Tryd.func84, Tryd.ntmps84
      go_wp2
      go_region_held3 (fun w' => w'.cell? ⟨C1, 0, none⟩ = some (.pointer (some ⟨fb, 0, none⟩)) ∧ w'.cell? ⟨fb, 0, none⟩ = some (.pointer (some ⟨gb, 0, none⟩)) ∧ w'.cell? ⟨fb, 1, none⟩ = some (.map (some cb)) ∧ w'.cell? ⟨C2, 0, none⟩ = some (.int .i64 c) ∧ (Instr.lookup 85 (.map (some cb)) (.int .i64 r) false).run Tryd.prog w' = .ok (.agg #[.int .i64 s', .int .i64 d']) w' ∧ (Instr.lookup 85 (.map (some cb)) (.int .i64 c) false).run Tryd.prog w' = .ok (.agg #[.int .i64 s, .int .i64 d]) w') (first | (exact E)) (first | (go_at_call 25; refine (to_b hr _ fd.ga fd.st hk (by omega) (by omega)).mono ?_; rintro e w1 ⟨rfl, hb1⟩; have fd := fd.below hb1; have cc1 := (hb1.cell (World.block_lt_of_cell? _ _ cc1)).trans cc1; have cc2 := (hb1.cell (World.block_lt_of_cell? _ _ cc2)).trans cc2; have E := backEnv (C1 := C1) (C2 := C2) fd hc hri hF hG cc1 cc2; have HB := HB.trans (hb1.mono HB.size)) | (go_at_call 47; refine (stepCost_any k _ fd.st hk).mono ?_; rintro e w1 ⟨rfl, hb1⟩; have fd := fd.below hb1; have cc1 := (hb1.cell (World.block_lt_of_cell? _ _ cc1)).trans cc1; have cc2 := (hb1.cell (World.block_lt_of_cell? _ _ cc2)).trans cc2; have E := backEnv (C1 := C1) (C2 := C2) fd hc hri hF hG cc1 cc2; have HB := HB.trans (hb1.mono HB.size)) | (go_at_call 27; refine (hadd _).mono ?_; rintro e w1 ⟨rfl, hb1⟩; have fd := fd.below hb1; have cc1 := (hb1.cell (World.block_lt_of_cell? _ _ cc1)).trans cc1; have cc2 := (hb1.cell (World.block_lt_of_cell? _ _ cc2)).trans cc2; have E := backEnv (C1 := C1) (C2 := C2) fd hc hri hF hG cc1 cc2; have HB := HB.trans (hb1.mono HB.size)))
      all_goals (try go_wp2)
      all_goals (go_ret; refine ⟨?_, HB⟩; simp [*])
    · have e2' : (B == d) = false := by simpa using e2
      go_enter Tryd.func84, Tryd.ntmps84
      go_wp2
      go_region_held3 (fun w' => w'.cell? ⟨C1, 0, none⟩ = some (.pointer (some ⟨fb, 0, none⟩)) ∧ w'.cell? ⟨fb, 0, none⟩ = some (.pointer (some ⟨gb, 0, none⟩)) ∧ w'.cell? ⟨fb, 1, none⟩ = some (.map (some cb)) ∧ w'.cell? ⟨C2, 0, none⟩ = some (.int .i64 c) ∧ (Instr.lookup 85 (.map (some cb)) (.int .i64 r) false).run Tryd.prog w' = .ok (.agg #[.int .i64 s', .int .i64 d']) w' ∧ (Instr.lookup 85 (.map (some cb)) (.int .i64 c) false).run Tryd.prog w' = .ok (.agg #[.int .i64 s, .int .i64 d]) w') (first | (exact E)) (first | (go_at_call 25; refine (to_b hr _ fd.ga fd.st hk (by omega) (by omega)).mono ?_; rintro e w1 ⟨rfl, hb1⟩; have fd := fd.below hb1; have cc1 := (hb1.cell (World.block_lt_of_cell? _ _ cc1)).trans cc1; have cc2 := (hb1.cell (World.block_lt_of_cell? _ _ cc2)).trans cc2; have E := backEnv (C1 := C1) (C2 := C2) fd hc hri hF hG cc1 cc2; have HB := HB.trans (hb1.mono HB.size)) | (go_at_call 47; refine (stepCost_any k _ fd.st hk).mono ?_; rintro e w1 ⟨rfl, hb1⟩; have fd := fd.below hb1; have cc1 := (hb1.cell (World.block_lt_of_cell? _ _ cc1)).trans cc1; have cc2 := (hb1.cell (World.block_lt_of_cell? _ _ cc2)).trans cc2; have E := backEnv (C1 := C1) (C2 := C2) fd hc hri hF hG cc1 cc2; have HB := HB.trans (hb1.mono HB.size)) | (go_at_call 27; refine (hadd _).mono ?_; rintro e w1 ⟨rfl, hb1⟩; have fd := fd.below hb1; have cc1 := (hb1.cell (World.block_lt_of_cell? _ _ cc1)).trans cc1; have cc2 := (hb1.cell (World.block_lt_of_cell? _ _ cc2)).trans cc2; have E := backEnv (C1 := C1) (C2 := C2) fd hc hri hF hG cc1 cc2; have HB := HB.trans (hb1.mono HB.size)))
      all_goals (try go_wp2)
      all_goals (go_ret; refine ⟨?_, HB⟩; simp [*])
  · have e1' : (A == s) = false := by simpa using e1
    go_enter Tryd.func84, Tryd.ntmps84
    go_wp2
    go_region_held3 (fun w' => w'.cell? ⟨C1, 0, none⟩ = some (.pointer (some ⟨fb, 0, none⟩)) ∧ w'.cell? ⟨fb, 0, none⟩ = some (.pointer (some ⟨gb, 0, none⟩)) ∧ w'.cell? ⟨fb, 1, none⟩ = some (.map (some cb)) ∧ w'.cell? ⟨C2, 0, none⟩ = some (.int .i64 c) ∧ (Instr.lookup 85 (.map (some cb)) (.int .i64 r) false).run Tryd.prog w' = .ok (.agg #[.int .i64 s', .int .i64 d']) w' ∧ (Instr.lookup 85 (.map (some cb)) (.int .i64 c) false).run Tryd.prog w' = .ok (.agg #[.int .i64 s, .int .i64 d]) w') (first | (exact E)) (first | (go_at_call 25; refine (to_b hr _ fd.ga fd.st hk (by omega) (by omega)).mono ?_; rintro e w1 ⟨rfl, hb1⟩; have fd := fd.below hb1; have cc1 := (hb1.cell (World.block_lt_of_cell? _ _ cc1)).trans cc1; have cc2 := (hb1.cell (World.block_lt_of_cell? _ _ cc2)).trans cc2; have E := backEnv (C1 := C1) (C2 := C2) fd hc hri hF hG cc1 cc2; have HB := HB.trans (hb1.mono HB.size)) | (go_at_call 47; refine (stepCost_any k _ fd.st hk).mono ?_; rintro e w1 ⟨rfl, hb1⟩; have fd := fd.below hb1; have cc1 := (hb1.cell (World.block_lt_of_cell? _ _ cc1)).trans cc1; have cc2 := (hb1.cell (World.block_lt_of_cell? _ _ cc2)).trans cc2; have E := backEnv (C1 := C1) (C2 := C2) fd hc hri hF hG cc1 cc2; have HB := HB.trans (hb1.mono HB.size)) | (go_at_call 27; refine (hadd _).mono ?_; rintro e w1 ⟨rfl, hb1⟩; have fd := fd.below hb1; have cc1 := (hb1.cell (World.block_lt_of_cell? _ _ cc1)).trans cc1; have cc2 := (hb1.cell (World.block_lt_of_cell? _ _ cc2)).trans cc2; have E := backEnv (C1 := C1) (C2 := C2) fd hc hri hF hG cc1 cc2; have HB := HB.trans (hb1.mono HB.size)))
    all_goals (try go_wp2)
    all_goals (go_ret; refine ⟨?_, HB⟩; simp [*])
end Go.Proofs.YtfhicijgpdpfpaaDoor
/-
  A step back from a cell that was come to.
-/
namespace Go.Proofs.YtfhicijgpdpfpaaDoor
open Go.RowKit

/-- was a cell come to by this direction's cell? -/
def byB (F : Int → Option (Int × Int)) (W c s d : Int) (k : Nat) : Bool := match F (c + (stepY k * W + stepX k)) with | some q => q.1 + stS k == s && q.2 + stD k == d | none => false

set_option maxHeartbeats 1000000 in
theorem back_any {fb gb cb n : Nat} {W H V x y s d o : Int} {bl : Nat → Bool} {F : Int → Option (Int × Int)} (c : Nat) (hx : (c : Int) % W = x) (hy : (c : Int) / W = y) (w : World) (f : FloodAt w fb gb cb W H V bl F n) (B : Best (Edge W H bl) o F) (hr : inB W H c = true) (hF : F c = some (s, d)) :
    Calls Tryd.prog 54 #[.pointer (some ⟨fb, 0, none⟩), .int .i64 c] w fun e w' => FoundAt w w' e (fun k => mayB W H bl x y k && byB F W c s d k) := by
  have hcc : 0 ≤ (c : Int) ∧ (c : Int) < W * H := of_decide_eq_true hr
  have w1 := f.ga.w1
  obtain ⟨k1, k2⟩ := wh_bd f.ga.w1 f.ga.w2 f.ga.h1 f.ga.h2
  obtain ⟨hfb, hgb, hcb, h00⟩ := f.blocks
  have p0 := f.p0
  have HB : Below w.heap.size w ((w.alloc (.cells #[.pointer (some ⟨fb, 0, none⟩)] 39)).alloc (.cells #[.int .i64 (c : Int)] 3)) := ((Below.refl _ _).alloc (Nat.le_refl _) _).alloc (by simp) _
  have q1 : ((w.alloc (.cells #[.pointer (some ⟨fb, 0, none⟩)] 39)).alloc (.cells #[.int .i64 (c : Int)] 3)).cell? ⟨w.heap.size, 0, none⟩ = some (.pointer (some ⟨fb, 0, none⟩)) := by
    rw [World.cell?_alloc_old _ _ _ (by simp), World.cell?_alloc_new]; rfl
  have q2 : ((w.alloc (.cells #[.pointer (some ⟨fb, 0, none⟩)] 39)).alloc (.cells #[.int .i64 (c : Int)] 3)).cell? ⟨w.heap.size + 1, 0, none⟩ = some (.int .i64 (c : Int)) :=
    World.cell?_alloc_at #[.int .i64 (c : Int)] 3 (w.heap.size + 1) 0 (by simp)
  go_enter Tryd.func54, Tryd.ntmps54
  go_wp2_with fail
  generalize (w.alloc (.cells #[.pointer (some ⟨fb, 0, none⟩)] 39)).alloc (.cells #[.int .i64 (c : Int)] 3) = W0 at *
  have HB : Below w.heap.size w W0.drew := ⟨HB.os, HB.tape, HB.output, HB.size, HB.block⟩
  have q1 : W0.drew.cell? ⟨w.heap.size, 0, none⟩ = some (.pointer (some ⟨fb, 0, none⟩)) := q1
  have q2 : W0.drew.cell? ⟨w.heap.size + 1, 0, none⟩ = some (.int .i64 (c : Int)) := q2
  have f0 := f.below HB
  have p0 := f0.p0
  have hz := HB.size
  have hfind := find_back (c1 := .pointer (some ⟨w.heap.size, 0, none⟩)) (c2 := .pointer (some ⟨w.heap.size + 1, 0, none⟩)) c hx hy (fun k => byB F W c s d k) W0.drew f0.ga f0.st (by omega) hr (fun k hk hm w' hb' => by
    have kk : ∀ {a : Addr} {v : Value}, W0.drew.cell? a = some v → w'.cell? a = some v := fun {a v} h => (hb'.cell (World.block_lt_of_cell? W0.drew a h)).trans h
    have hed : Edge W H bl c k ((c : Int) + (stepY k * W + stepX k)) := ⟨hk, hr, by rw [hx, hy]; exact hm, rfl⟩
    have hti := hed.in' w1
    obtain ⟨s', d', hG, _⟩ := B.edge hF hed
    obtain ⟨b1, b2, b3⟩ := B.small hG
    have hsm := val_small b1 b2 b3
    have hok : okC s' d' := by unfold okC; omega
    have := back_fits (C1 := w.heap.size) (C2 := w.heap.size + 1) k w' (f0.below hb') hk hr hti rfl hF hG hok (kk q1) (kk q2)
    have e : byB F W c s d k = (s' + stS k == s && d' + stD k == d) := by unfold byB; rw [hG]
    show Calls _ _ _ _ (fun e w'' => e = .returned (.bool (byB F W c s d k)) ∧ _)
    rw [e]
    exact this)
  go_region_held3 (fun w' => w'.cell? ⟨w.heap.size, 0, none⟩ = some (.pointer (some ⟨fb, 0, none⟩)) ∧ w'.cell? ⟨fb, 0, none⟩ = some (.pointer (some ⟨gb, 0, none⟩)) ∧ w'.cell? ⟨w.heap.size + 1, 0, none⟩ = some (.int .i64 (c : Int))) (first | (exact ⟨q1, p0, q2⟩)) (first | (go_at_call 75; refine hfind.mono ?_; rintro e w5 ⟨r, ok, rfl, hFo, hb5⟩; have q1 := (hb5.cell (World.block_lt_of_cell? _ _ q1)).trans q1; have p0 := (hb5.cell (World.block_lt_of_cell? _ _ p0)).trans p0; have q2 := (hb5.cell (World.block_lt_of_cell? _ _ q2)).trans q2))
  all_goals (try go_wp2)
  all_goals (go_ret2; exact ⟨r, ok, rfl, hFo, HB.trans (hb5.mono hz)⟩)

/-- what 'back' comes to: a cell one step nearer, or there is none: it is the first one -/
theorem back_step {W H x y s d o r : Int} {bl : Nat → Bool} {F : Int → Option (Int × Int)} {c : Nat} {ok : Bool} (hx : (c : Int) % W = x) (hy : (c : Int) / W = y) (w1 : 1 ≤ W) (B : Best (Edge W H bl) o F) (hr : inB W H c = true) (hF : F c = some (s, d)) (h : Found (fun k => mayB W H bl x y k && byB F W c s d k) r ok) :
    (ok = true ∧ ∃ (k : Nat) (s' d' : Int), k < 8 ∧ r = k ∧ Edge W H bl c k ((c : Int) + (stepY k * W + stepX k)) ∧ F ((c : Int) + (stepY k * W + stepX k)) = some (s', d') ∧ s' + stS k = s ∧ d' + stD k = d) ∨ (ok = false ∧ (c : Int) = o) := by
  rcases h with ⟨h1, k, hk, hrk, hq, _⟩ | ⟨h1, _, hno⟩
  · left
    rw [Bool.and_eq_true] at hq
    obtain ⟨hm, hby⟩ := hq
    have hed : Edge W H bl c k ((c : Int) + (stepY k * W + stepX k)) := ⟨hk, hr, by rw [hx, hy]; exact hm, rfl⟩
    unfold byB at hby
    cases hG : F ((c : Int) + (stepY k * W + stepX k)) with
    | none => rw [hG] at hby; cases hby
    | some q =>
      obtain ⟨s', d'⟩ := q
      rw [hG] at hby
      simp only [Bool.and_eq_true, beq_iff_eq] at hby
      exact ⟨h1, k, s', d', hk, hrk, hed, hG, hby.1, hby.2⟩
  · right
    refine ⟨h1, ?_⟩
    by_cases e : (c : Int) = o
    · exact e
    · exfalso
      obtain ⟨a, k, s', d', he, hG, e1, e2⟩ := B.prev hF e
      obtain ⟨k', he', g1, g2⟩ := Edge.back w1 a k c he
      obtain ⟨j1, j2, j3, j4⟩ := he'
      have hn : (mayB W H bl x y k' && byB F W c s d k') = false := hno k' j1
      rw [hx, hy] at j3
      rw [j3] at hn
      unfold byB at hn
      rw [← j4, hG, g1, g2, e1, e2] at hn
      simp at hn
end Go.Proofs.YtfhicijgpdpfpaaDoor
/-
  A list of numbers is turned round.
-/
namespace Go.Proofs.YtfhicijgpdpfpaaDoor
open Go.RowKit

/-- numbers in a block of one's own -/
structure IRow (w : World) (g L : Nat) (f : Nat → Int) : Prop where
  at' : ∀ i, i < L → w.cell? ⟨g, i, none⟩ = some (.int .i64 (f i))
  fr : ∀ i, i < L → w.frozen? ⟨g, i, none⟩ = false

theorem IRow.two {w : World} {g L : Nat} {f : Nat → Int} (h : IRow w g L f) {i j : Nat} (hi : i < L) (hj : j < L) (x y : Int) :
    IRow ((w.setCell ⟨g, i, none⟩ (.int .i64 x)).setCell ⟨g, j, none⟩ (.int .i64 y)) g L (fun k => if k = j then y else if k = i then x else f k) := by
  refine ⟨fun k hk => ?_, fun k hk => by simpa using h.fr k hk⟩
  by_cases e : k = j
  · subst e
    rw [if_pos rfl]
    by_cases e2 : k = i
    · subst e2
      exact World.cell?_setCell_same _ _ _ (World.cell?_setCell_same _ _ _ (h.at' k hk))
    · refine World.cell?_setCell_same _ _ _ (u := .int .i64 (f k)) ?_
      rw [World.cell?_setCell_other _ _ _ _ (by intro q; cases q; exact e2 rfl)]
      exact h.at' k hk
  · rw [if_neg e, World.cell?_setCell_other _ _ _ _ (by intro q; cases q; exact e rfl)]
    by_cases e2 : k = i
    · subst e2
      rw [if_pos rfl]
      exact World.cell?_setCell_same _ _ _ (h.at' k hk)
    · rw [if_neg e2, World.cell?_setCell_other _ _ _ _ (by intro q; cases q; exact e2 rfl)]
      exact h.at' k hk

/-- turned round from both ends, i of each -/
def turn (L : Nat) (f : Nat → Int) (i : Nat) : Nat → Int := fun k => if k < i ∨ L - 1 - i < k then f (L - 1 - k) else f k

set_option maxHeartbeats 2000000 in
set_option maxRecDepth 1000000 in
theorem rev_any {g L cap : Nat} {f : Nat → Int} (w : World) (h : IRow w g L f) (h0 : 0 < L) (hL : L ≤ 1000) :
    Calls Tryd.prog 55 #[.slice (some ⟨g, 0, none⟩) L cap] w fun e w' => e = .returned (.tuple #[]) ∧ (∀ i, i < L → w'.cell? ⟨g, i, none⟩ = some (.int .i64 (f (L - 1 - i)))) ∧ Keep (fun k => k = g) w w' := by
  have hst : IRow w g L (turn L f 0) := by
    refine ⟨fun i hi => ?_, h.fr⟩
    rw [h.at' i hi]
    unfold turn
    rw [if_neg (by omega)]
  go_enter Tryd.func55, Tryd.ntmps55
  go_wp2
  go_loopg [2, 3] L (fun gk iv jv wr => ∃ i : Nat, 2 * i ≤ L + 1 ∧ gk = L - i ∧ iv = .int .i64 i ∧ jv = .int .i64 ((L : Int) - 1 - i) ∧ IRow wr g L (turn L f i) ∧ Keep (fun k => k = g) w wr)
  case atStart => exact ⟨0, by omega, rfl, rfl, by go_num, hst, Keep.refl _ _⟩
  case round =>
    clear hst
    obtain ⟨i, hi, hgk, rfl, rfl, R, K⟩ := hrel
    have HG : Hid (gk = L - i) := hgk
    clear hgk
    by_cases hlt : (i : Int) < (L : Int) - 1 - i
    · obtain ⟨j, hj⟩ : ∃ j : Nat, (L : Int) - 1 - i = j := ⟨((L : Int) - 1 - i).toNat, by omega⟩
      rw [hj] at hlt ⊢
      have hiL : i < L := by omega
      have hjL : j < L := by omega
      have ci := R.at' i hiL
      have cj := R.at' j hjL
      have fi := R.fr i hiL
      have fj := R.fr j hjL
      have b1 : (i : Int) < (L : Int) := by omega
      have b2 : (j : Int) < (L : Int) := by omega
      have b3 : (0 : Int) ≤ (i : Int) := by omega
      have b4 : (0 : Int) ≤ (j : Int) := by omega
      have hne : ¬ i = j := by omega
      have hR := R.two hiL hjL (turn L f i j) (turn L f i i)
      have hR2 : IRow ((wr.setCell ⟨g, i, none⟩ (.int .i64 (turn L f i j))).setCell ⟨g, j, none⟩ (.int .i64 (turn L f i i))) g L (turn L f (i + 1)) := by
        refine ⟨fun k hk => ?_, hR.fr⟩
        rw [hR.at' k hk]
        congr 2
        unfold turn
        by_cases e1 : k = j
        · subst e1
          rw [if_pos rfl, if_neg (by omega), if_pos (by omega)]
          congr 1; omega
        · rw [if_neg e1]
          by_cases e2 : k = i
          · subst e2
            rw [if_pos rfl, if_neg (by omega), if_pos (by omega)]
            congr 1; omega
          · rw [if_neg e2]
            by_cases e3 : k < i ∨ L - 1 - i < k
            · rw [if_pos e3, if_pos (by omega)]
            · rw [if_neg e3, if_neg (by omega)]
      have hK2 : Keep (fun k => k = g) w ((wr.setCell ⟨g, i, none⟩ (.int .i64 (turn L f i j))).setCell ⟨g, j, none⟩ (.int .i64 (turn L f i i))) := (K.setCell (p := ⟨g, i, none⟩) (fun _ => rfl) _).setCell (p := ⟨g, j, none⟩) (fun _ => rfl) _
      clear hR R K
      generalize turn L f i i = vi at *
      generalize turn L f i j = vj at *
      go_wp2
      go_region
      have hR3 : IRow ((wr.setCell ⟨g, i, none⟩ (.int .i64 vj)).setCell ⟨g, j, none⟩ (.int .i64 vi)).drew g L (turn L f (i + 1)) := ⟨hR2.at', hR2.fr⟩
      have hK3 := hK2.drew
      clear hR2 hK2 ci cj fi fj
      go_wp2
      go_roundg (L - (i + 1))
      case measure => have := HG.out; omega
      case rel =>
        refine ⟨i + 1, by omega, rfl, by go_num, ?_, hR3, hK3⟩
        have e : (j : Int) - 1 = (L : Int) - 1 - ((i + 1 : Nat) : Int) := by omega
        rw [← e]
    · have hcells : ∀ k, k < L → wr.cell? ⟨g, k, none⟩ = some (.int .i64 (f (L - 1 - k))) := fun k hk => by
        rw [R.at' k hk]
        congr 2
        unfold turn
        by_cases e : k < i ∨ L - 1 - i < k
        · rw [if_pos e]
        · rw [if_neg e]; congr 1; omega
      go_wp2
      go_end0
      exact ⟨rfl, hcells, K⟩
end Go.Proofs.YtfhicijgpdpfpaaDoor
