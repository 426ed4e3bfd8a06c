/-
  Texts laid together: Steps, Frame, Frame2.
-/
import Derived.Test.YtmnpplkjhnoglaaGreatDoorP45
import Derived.ProofKit
import Derived.LaidMore
import Derived.OpenShut
import Derived.Stop.Joined
import Derived.Lib.LaidTab
import Derived.Test.YtmnpplkjhnoglaaGreatDoorTie
import Derived.Test.YtmnpplkjhnoglaaGreatDoorCards
import Derived.ChangeMaps5
import Derived.SevenTiedAt
import Derived.Lib.SmallJoins
/-
  The table of steps, read off the row's listed variable.
-/
namespace Go.Proofs.YtmnpplkjhnoglaaGreatDoor
open Go.ChangeShapes Go.WideShapes Go.ChangeAt Go.RowKit

theorem gSteps : Tryz.prog.globalNamed "fellrunner/grid.steps" = some 0 := by kernel_rfl
theorem tSteps : (Tryz.prog.globals[0]?).map (·.type) = some 213 := by kernel_rfl
theorem c60 : Tryz.prog.cellsOf 212 = 2 := by kernel_rfl
theorem c3' : Tryz.prog.cellsOf 3 = 1 := by kernel_rfl
abbrev stepsLaid : List (String × DataW Unit) := [("fellrunner/grid.steps", Rows.laid_fellrunner_grid_steps)]

theorem lt_of_cell {w : World} {b o : Nat} {v : Value} (h : w.cell? ⟨b, o, none⟩ = some v) : b < w.heap.size := by
  by_cases hb : b < w.heap.size
  · exact hb
  · unfold World.cell? at h
    rw [Array.getElem?_eq_none (by simpa using hb)] at h
    simp at h

theorem steps_of {W : World} (h : laidMetH Tryz.prog stepsLaid W) : StepsAt W ∧ 0 < W.heap.size := by
  rw [MakeChecks.laidMetH_plain _ _ _ (by kernel_rfl)] at h
  obtain ⟨ps, ⟨g0, t0, cs0, f0, p0, q0, hg0, ht0, hv0, hd0, _, _⟩, _, _⟩ := h
  obtain rfl := Option.some.inj (gSteps.symm.trans hg0)
  obtain rfl := Option.some.inj (tSteps.symm.trans ht0)
  obtain ⟨xs, m, _, hx1, hlen, hn, hel⟩ := DataW.trod_array Tryz.underlying213 hd0
  simp only [Prod.mk.injEq] at hx1
  have hxa := hx1.1
  have key : ∀ i, i < 8 → cs0.toList[2 * i]? = some (.int .i64 (stepX i)) ∧ cs0.toList[2 * i + 1]? = some (.int .i64 (stepY i)) := by
    intro i hi
    have h1 := hel i hi
    rw [c60] at h1
    have hxi : ∃ p, xs[i]? = some (Lib.tabData .i64 [stepX i, stepY i], p) := by
      have hlt : i < xs.length := by omega
      refine ⟨xs[i].2, ?_⟩
      rw [List.getElem?_eq_getElem hlt]
      have e2 : (xs.map (·.1))[i]? = some xs[i].1 := by rw [List.getElem?_map, List.getElem?_eq_getElem hlt]; rfl
      simp only [Rows.laid_fellrunner_grid_steps, DataW.agg.injEq] at hxa
      rw [← hxa] at e2
      have hks : i = 0 ∨ i = 1 ∨ i = 2 ∨ i = 3 ∨ i = 4 ∨ i = 5 ∨ i = 6 ∨ i = 7 := by omega
      rcases hks with rfl | rfl | rfl | rfl | rfl | rfl | rfl | rfl <;>
        (simp at e2; exact congrArg some (Prod.ext e2.symm rfl))
    obtain ⟨p, hp⟩ := hxi
    rw [hp] at h1
    have h2 := Lib.cells_of_tab Tryz.underlying212 Tryz.underlying3 c3' c60 h1
    have a0 : ((cs0.toList.drop (i * 2)).take 2)[0]? = cs0.toList[2 * i]? := by
      rw [List.getElem?_take_of_lt (by decide), List.getElem?_drop]; congr 1; omega
    have a1 : ((cs0.toList.drop (i * 2)).take 2)[1]? = cs0.toList[2 * i + 1]? := by
      rw [List.getElem?_take_of_lt (by decide), List.getElem?_drop]; congr 1; omega
    rw [h2] at a0 a1
    exact ⟨a0.symm, a1.symm⟩
  have cell : ∀ i, W.cell? ⟨0, i, none⟩ = cs0.toList[i]? := fun i => by
    have := World.var?_cell hg0 hv0 i
    rw [this]; simp
  refine ⟨fun i hi => ⟨by rw [cell]; exact (key i hi).1, by rw [cell]; exact (key i hi).2⟩, ?_⟩
  exact lt_of_cell ((cell 0).trans (key 0 (by decide)).1)
end Go.Proofs.YtmnpplkjhnoglaaGreatDoor
/-
  What the frames of this seat's laws have in common: how lists that come in lie in memory.
-/
namespace Go.Proofs.YtmnpplkjhnoglaaGreatDoor
open Go.ChangeShapes Go.WideShapes Go.ChangeAt Go.RowKit Go.Joins

theorem Tryz.own : ownKnob Tryz.prog.godebug = none := by kernel_rfl
theorem Tryz.laidOut : laidOutB Tryz.prog = true := by kernel_rfl
theorem Tryz.cells24 : Tryz.prog.cellsOf 24 = 3 := by kernel_rfl

theorem law_met (os : Os) (args : Array Value) : laidMetH Tryz.prog stepsLaid ((World.doorLaid Tryz.prog 27 os).forCall (fun _ _ => 0) ⟨#[], args, []⟩).memory :=
  laidMetH_of_parts3 (fuel := 8) (laidMet_of_run' 8 (by kernel_rfl) (by kernel_rfl)) (by kernel_rfl) (by kernel_rfl)

/-- a slice of integers that came in, as a row of old memory -/
theorem row_in {H : Type} {enc : TypeId × Value → H} {W : World} {sp : Nat → Bool} {held : Bool} {fuel : Nat} {c : Value} {x : DataW H × List MemPlace} (h : DataW.trod enc Tryz.prog W 0 sp held fuel 22 [c] = some x) :
    ∃ A n cap xs, c = .slice A n cap ∧ n ≤ maxLen ∧ OldRow W A n xs := by
  rcases open_ints Tryz.underlying22 Tryz.underlying3 (by kernel_rfl) h with ⟨hcs, _⟩ | ⟨a, l, cap, zs, hcs, _, hl, hm, hz, _, hcell, _⟩
  · simp at hcs
    exact ⟨none, 0, 0, fun _ => 0, hcs, by unfold maxLen; omega, fun i hi => absurd hi (Nat.not_lt_zero i)⟩
  · simp at hcs
    refine ⟨some a, l, cap, fun i => zs.getD i 0, hcs, Nat.le_trans hl hm, fun i hi => ?_⟩
    have hzl : i < zs.length := by rw [hz]; split <;> omega
    obtain ⟨b, off, rfl, hc⟩ := ints_at hcell (by omega)
    exact ⟨b, off, rfl, lt_of_cell (hc i hzl), hc i hzl⟩

end Go.Proofs.YtmnpplkjhnoglaaGreatDoor
/-
  What the frames of this seat's laws on package reach have in common: both tables.
-/
namespace Go.Proofs.YtmnpplkjhnoglaaGreatDoor
open Go.ChangeShapes Go.WideShapes Go.ChangeAt Go.RowKit Go.Joins

abbrev bothLaid : List (String × DataW Unit) := [("fellrunner/grid.steps", Rows.laid_fellrunner_grid_steps), ("fellrunner/reach.diagonalFirst", Rows.laid_fellrunner_reach_diagonalFirst)]
theorem gDiag : Tryz.prog.globalNamed "fellrunner/reach.diagonalFirst" = some 1 := by kernel_rfl
theorem tDiag : (Tryz.prog.globals[1]?).map (·.type) = some 223 := by kernel_rfl
theorem c223 : Tryz.prog.cellsOf 223 = 8 := by kernel_rfl

theorem both_steps {W : World} (h : laidMetH Tryz.prog bothLaid W) : laidMetH Tryz.prog stepsLaid W := by
  rw [MakeChecks.laidMetH_plain _ _ _ (by kernel_rfl)] at h ⊢
  obtain ⟨ps, ⟨g0, t0, cs0, f0, p0, q0, hg0, ht0, hv0, hd0, _, hps⟩, hnd, hc⟩ := h
  subst hps
  refine ⟨_, ⟨g0, t0, cs0, f0, p0, [], hg0, ht0, hv0, hd0, rfl, rfl⟩, ?_, fun b off hm => hc b off ?_⟩
  · rw [List.append_nil]
    exact (List.nodup_append.1 hnd).1
  · rw [List.append_nil] at hm
    exact List.mem_append_left _ hm

theorem diag_of {W : World} (h : laidMetH Tryz.prog bothLaid W) : DiagAt W := by
  rw [MakeChecks.laidMetH_plain _ _ _ (by kernel_rfl)] at h
  obtain ⟨ps, ⟨_, _, _, _, _, _, _, _, _, _, ⟨g0, t0, cs0, f0, p0, q0, hg0, ht0, hv0, hd0, _, _⟩, _⟩, _, _⟩ := h
  obtain rfl := Option.some.inj (gDiag.symm.trans hg0)
  obtain rfl := Option.some.inj (tDiag.symm.trans ht0)
  have hd1 : DataW.trod (fun _ => ()) Tryz.prog W 0 (fun _ => true) false f0 223 cs0.toList = some (Lib.tabData .i64 [1, 3, 5, 7, 0, 2, 4, 6], p0) := hd0
  have h2 := Lib.cells_of_tab Tryz.underlying223 Tryz.underlying3 c3' c223 hd1
  intro i hi
  have := World.var?_cell hg0 hv0 i
  rw [this]
  have e : cs0[i]? = cs0.toList[i]? := by simp
  rw [e, h2]
  rcases k8 hi with rfl | rfl | rfl | rfl | rfl | rfl | rfl | rfl <;> rfl

theorem law_met2 (os : Os) (args : Array Value) : laidMetH Tryz.prog bothLaid ((World.doorLaid Tryz.prog 27 os).forCall (fun _ _ => 0) ⟨#[], args, []⟩).memory :=
  laidMetH_of_parts3 (fuel := 8) (laidMet_of_run' 8 (by kernel_rfl) (by kernel_rfl)) (by kernel_rfl) (by kernel_rfl)
end Go.Proofs.YtmnpplkjhnoglaaGreatDoor
