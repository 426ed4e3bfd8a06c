/-
  By which direction a cell was come to.
-/
import Derived.Test.YtfhicijgpdpfpaaDoorBtw
namespace Go.Proofs.YtfhicijgpdpfpaaDoor
open Go.RowKit

/-- what the closure of 'back' reads -/
def BackEnv (w : World) (C1 C2 fb gb cb : Nat) (c r s d s' d' : Int) : Prop :=
  w.cell? ⟨C1, 0, none⟩ = some (.pointer (some ⟨fb, 0, none⟩)) ∧ w.cell? ⟨fb, 0, none⟩ = some (.pointer (some ⟨gb, 0, none⟩)) ∧ w.cell? ⟨fb, 1, none⟩ = some (.map (some cb)) ∧ w.cell? ⟨C2, 0, none⟩ = some (.int .i64 c) ∧
  (Instr.lookup 85 (.map (some cb)) (.int .i64 r) false).run Tryd.prog w = .ok (.agg #[.int .i64 s', .int .i64 d']) w ∧ (Instr.lookup 85 (.map (some cb)) (.int .i64 c) false).run Tryd.prog w = .ok (.agg #[.int .i64 s, .int .i64 d]) w

theorem backEnv {w : World} {C1 C2 fb gb cb n : Nat} {W H V c r s d s' d' : Int} {bl : Nat → Bool} {F : Int → Option (Int × Int)} (f : FloodAt w fb gb cb W H V bl F n) (hc : inB W H c = true) (hr : inB W H r = true) (hF : F c = some (s, d)) (hG : F r = some (s', d'))
    (c1 : w.cell? ⟨C1, 0, none⟩ = some (.pointer (some ⟨fb, 0, none⟩))) (c2 : w.cell? ⟨C2, 0, none⟩ = some (.int .i64 c)) : BackEnv w C1 C2 fb gb cb c r s d s' d' :=
  ⟨c1, f.p0, f.p1, c2, f.look1 (wf_cell f.ga.w1 f.ga.w2 f.ga.h1 f.ga.h2 hr) hG, f.look1 (wf_cell f.ga.w1 f.ga.w2 f.ga.h1 f.ga.h2 hc) hF⟩

set_option maxHeartbeats 2000000 in
set_option maxRecDepth 1000000 in
theorem back_fits {C1 C2 fb gb cb n : Nat} {W H V c r s d s' d' : Int} {bl : Nat → Bool} {F : Int → Option (Int × Int)} (k : Nat) (w : World) (f : FloodAt w fb gb cb W H V bl F n) (hk : k < 8) (hc : inB W H c = true) (hri : inB W H r = true) (hr : c + (stepY k * W + stepX k) = r) (hF : F c = some (s, d)) (hG : F r = some (s', d'))
    (hok : okC s' d')
    (c1 : w.cell? ⟨C1, 0, none⟩ = some (.pointer (some ⟨fb, 0, none⟩))) (c2 : w.cell? ⟨C2, 0, none⟩ = some (.int .i64 c)) :
    Calls Tryd.prog 84 #[.int .i64 k, .pointer (some ⟨C1, 0, none⟩), .pointer (some ⟨C2, 0, none⟩)] w fun e w' => e = .returned (.bool (s' + stS k == s && d' + stD k == d)) ∧ Below w.heap.size w w' := by
  have hcc : 0 ≤ c ∧ c < W * H := of_decide_eq_true hc
  obtain ⟨k1, k2⟩ := wh_bd f.ga.w1 f.ga.w2 f.ga.h1 f.ga.h2
  have hst := st_bd k
  have hokS : okC (stS k) (stD k) := by unfold okC; omega
  have fd : FloodAt w.drew fb gb cb W H V bl F n := f.below ⟨rfl, rfl, rfl, Nat.le_refl _, fun _ _ => rfl⟩
  have E := backEnv (C1 := C1) (C2 := C2) fd hc hri hF hG c1 c2
  have HB : Below w.heap.size w w.drew := ⟨rfl, rfl, rfl, Nat.le_refl _, fun _ _ => rfl⟩
  have cc1 : w.drew.cell? ⟨C1, 0, none⟩ = some (.pointer (some ⟨fb, 0, none⟩)) := c1
  have cc2 : w.drew.cell? ⟨C2, 0, none⟩ = some (.int .i64 c) := c2
  have hadd := fun w => add_any s' d' (stS k) (stD k) w hok hokS
  have hok' : okC s' d' := hok
  clear hok hokS hst
  generalize s' + stS k = A at *
  generalize d' + stD k = B at *
  by_cases e1 : A = s
  · obtain rfl : s = A := e1.symm
    by_cases e2 : B = d
    · obtain rfl : d = B := e2.symm
      go_enter Tryd.func84, Tryd.ntmps84
      go_wp2
      go_region_held3 (fun w' => w'.cell? ⟨C1, 0, none⟩ = some (.pointer (some ⟨fb, 0, none⟩)) ∧ w'.cell? ⟨fb, 0, none⟩ = some (.pointer (some ⟨gb, 0, none⟩)) ∧ w'.cell? ⟨fb, 1, none⟩ = some (.map (some cb)) ∧ w'.cell? ⟨C2, 0, none⟩ = some (.int .i64 c) ∧ (Instr.lookup 85 (.map (some cb)) (.int .i64 r) false).run Tryd.prog w' = .ok (.agg #[.int .i64 s', .int .i64 d']) w' ∧ (Instr.lookup 85 (.map (some cb)) (.int .i64 c) false).run Tryd.prog w' = .ok (.agg #[.int .i64 s, .int .i64 d]) w') (first | (exact E)) (first | (go_at_call 25; refine (to_b hr _ fd.ga fd.st hk (by omega) (by omega)).mono ?_; rintro e w1 ⟨rfl, hb1⟩; have fd := fd.below hb1; have cc1 := (hb1.cell (World.block_lt_of_cell? _ _ cc1)).trans cc1; have cc2 := (hb1.cell (World.block_lt_of_cell? _ _ cc2)).trans cc2; have E := backEnv (C1 := C1) (C2 := C2) fd hc hri hF hG cc1 cc2; have HB := HB.trans (hb1.mono HB.size)) | (go_at_call 47; refine (stepCost_any k _ fd.st hk).mono ?_; rintro e w1 ⟨rfl, hb1⟩; have fd := fd.below hb1; have cc1 := (hb1.cell (World.block_lt_of_cell? _ _ cc1)).trans cc1; have cc2 := (hb1.cell (World.block_lt_of_cell? _ _ cc2)).trans cc2; have E := backEnv (C1 := C1) (C2 := C2) fd hc hri hF hG cc1 cc2; have HB := HB.trans (hb1.mono HB.size)) | (go_at_call 27; refine (hadd _).mono ?_; rintro e w1 ⟨rfl, hb1⟩; have fd := fd.below hb1; have cc1 := (hb1.cell (World.block_lt_of_cell? _ _ cc1)).trans cc1; have cc2 := (hb1.cell (World.block_lt_of_cell? _ _ cc2)).trans cc2; have E := backEnv (C1 := C1) (C2 := C2) fd hc hri hF hG cc1 cc2; have HB := HB.trans (hb1.mono HB.size)))
      all_goals (try go_wp2)
      all_goals (go_ret; refine ⟨?_, HB⟩; simp [*])
    · have e2' : (B == d) = false := by simpa using e2
      go_enter Tryd.func84, Tryd.ntmps84
      go_wp2
      go_region_held3 (fun w' => w'.cell? ⟨C1, 0, none⟩ = some (.pointer (some ⟨fb, 0, none⟩)) ∧ w'.cell? ⟨fb, 0, none⟩ = some (.pointer (some ⟨gb, 0, none⟩)) ∧ w'.cell? ⟨fb, 1, none⟩ = some (.map (some cb)) ∧ w'.cell? ⟨C2, 0, none⟩ = some (.int .i64 c) ∧ (Instr.lookup 85 (.map (some cb)) (.int .i64 r) false).run Tryd.prog w' = .ok (.agg #[.int .i64 s', .int .i64 d']) w' ∧ (Instr.lookup 85 (.map (some cb)) (.int .i64 c) false).run Tryd.prog w' = .ok (.agg #[.int .i64 s, .int .i64 d]) w') (first | (exact E)) (first | (go_at_call 25; refine (to_b hr _ fd.ga fd.st hk (by omega) (by omega)).mono ?_; rintro e w1 ⟨rfl, hb1⟩; have fd := fd.below hb1; have cc1 := (hb1.cell (World.block_lt_of_cell? _ _ cc1)).trans cc1; have cc2 := (hb1.cell (World.block_lt_of_cell? _ _ cc2)).trans cc2; have E := backEnv (C1 := C1) (C2 := C2) fd hc hri hF hG cc1 cc2; have HB := HB.trans (hb1.mono HB.size)) | (go_at_call 47; refine (stepCost_any k _ fd.st hk).mono ?_; rintro e w1 ⟨rfl, hb1⟩; have fd := fd.below hb1; have cc1 := (hb1.cell (World.block_lt_of_cell? _ _ cc1)).trans cc1; have cc2 := (hb1.cell (World.block_lt_of_cell? _ _ cc2)).trans cc2; have E := backEnv (C1 := C1) (C2 := C2) fd hc hri hF hG cc1 cc2; have HB := HB.trans (hb1.mono HB.size)) | (go_at_call 27; refine (hadd _).mono ?_; rintro e w1 ⟨rfl, hb1⟩; have fd := fd.below hb1; have cc1 := (hb1.cell (World.block_lt_of_cell? _ _ cc1)).trans cc1; have cc2 := (hb1.cell (World.block_lt_of_cell? _ _ cc2)).trans cc2; have E := backEnv (C1 := C1) (C2 := C2) fd hc hri hF hG cc1 cc2; have HB := HB.trans (hb1.mono HB.size)))
      all_goals (try go_wp2)
      all_goals (go_ret; refine ⟨?_, HB⟩; simp [*])
  · have e1' : (A == s) = false := by simpa using e1
    go_enter Tryd.func84, Tryd.ntmps84
    go_wp2
    go_region_held3 (fun w' => w'.cell? ⟨C1, 0, none⟩ = some (.pointer (some ⟨fb, 0, none⟩)) ∧ w'.cell? ⟨fb, 0, none⟩ = some (.pointer (some ⟨gb, 0, none⟩)) ∧ w'.cell? ⟨fb, 1, none⟩ = some (.map (some cb)) ∧ w'.cell? ⟨C2, 0, none⟩ = some (.int .i64 c) ∧ (Instr.lookup 85 (.map (some cb)) (.int .i64 r) false).run Tryd.prog w' = .ok (.agg #[.int .i64 s', .int .i64 d']) w' ∧ (Instr.lookup 85 (.map (some cb)) (.int .i64 c) false).run Tryd.prog w' = .ok (.agg #[.int .i64 s, .int .i64 d]) w') (first | (exact E)) (first | (go_at_call 25; refine (to_b hr _ fd.ga fd.st hk (by omega) (by omega)).mono ?_; rintro e w1 ⟨rfl, hb1⟩; have fd := fd.below hb1; have cc1 := (hb1.cell (World.block_lt_of_cell? _ _ cc1)).trans cc1; have cc2 := (hb1.cell (World.block_lt_of_cell? _ _ cc2)).trans cc2; have E := backEnv (C1 := C1) (C2 := C2) fd hc hri hF hG cc1 cc2; have HB := HB.trans (hb1.mono HB.size)) | (go_at_call 47; refine (stepCost_any k _ fd.st hk).mono ?_; rintro e w1 ⟨rfl, hb1⟩; have fd := fd.below hb1; have cc1 := (hb1.cell (World.block_lt_of_cell? _ _ cc1)).trans cc1; have cc2 := (hb1.cell (World.block_lt_of_cell? _ _ cc2)).trans cc2; have E := backEnv (C1 := C1) (C2 := C2) fd hc hri hF hG cc1 cc2; have HB := HB.trans (hb1.mono HB.size)) | (go_at_call 27; refine (hadd _).mono ?_; rintro e w1 ⟨rfl, hb1⟩; have fd := fd.below hb1; have cc1 := (hb1.cell (World.block_lt_of_cell? _ _ cc1)).trans cc1; have cc2 := (hb1.cell (World.block_lt_of_cell? _ _ cc2)).trans cc2; have E := backEnv (C1 := C1) (C2 := C2) fd hc hri hF hG cc1 cc2; have HB := HB.trans (hb1.mono HB.size)))
    all_goals (try go_wp2)
    all_goals (go_ret; refine ⟨?_, HB⟩; simp [*])
end Go.Proofs.YtfhicijgpdpfpaaDoor
