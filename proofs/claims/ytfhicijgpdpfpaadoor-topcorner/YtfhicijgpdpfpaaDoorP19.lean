/-
  Texts laid together: Frame2.
-/
import Derived.Test.YtfhicijgpdpfpaaDoorP18
/-
  What the frames of this seat's laws on package reach have in common: both tables.
-/
namespace Go.Proofs.YtfhicijgpdpfpaaDoor
open Go.ChangeShapes Go.WideShapes Go.ChangeAt Go.RowKit Go.Joins

abbrev bothLaid : List (String × DataW Unit) := [("fellrunner/grid.steps", Rows.laid_fellrunner_grid_steps), ("fellrunner/reach.diagonalFirst", Rows.laid_fellrunner_reach_diagonalFirst)]
theorem gDiag : Tryd.prog.globalNamed "fellrunner/reach.diagonalFirst" = some 1 := by kernel_rfl
theorem tDiag : (Tryd.prog.globals[1]?).map (·.type) = some 139 := by kernel_rfl
theorem c139 : Tryd.prog.cellsOf 139 = 8 := by kernel_rfl

theorem both_steps {W : World} (h : laidMetH Tryd.prog bothLaid W) : laidMetH Tryd.prog stepsLaid W := by
  rw [MakeChecks.laidMetH_plain _ _ _ (by kernel_rfl)] at h ⊢
  obtain ⟨ps, ⟨g0, t0, cs0, f0, p0, q0, hg0, ht0, hv0, hd0, _, hps⟩, hnd, hc⟩ := h
  subst hps
  refine ⟨_, ⟨g0, t0, cs0, f0, p0, [], hg0, ht0, hv0, hd0, rfl, rfl⟩, ?_, fun b off hm => hc b off ?_⟩
  · rw [List.append_nil]
    exact (List.nodup_append.1 hnd).1
  · rw [List.append_nil] at hm
    exact List.mem_append_left _ hm

theorem diag_of {W : World} (h : laidMetH Tryd.prog bothLaid W) : DiagAt W := by
  rw [MakeChecks.laidMetH_plain _ _ _ (by kernel_rfl)] at h
  obtain ⟨ps, ⟨_, _, _, _, _, _, _, _, _, _, ⟨g0, t0, cs0, f0, p0, q0, hg0, ht0, hv0, hd0, _, _⟩, _⟩, _, _⟩ := h
  obtain rfl := Option.some.inj (gDiag.symm.trans hg0)
  obtain rfl := Option.some.inj (tDiag.symm.trans ht0)
  have hd1 : DataW.trod (fun _ => ()) Tryd.prog W 0 (fun _ => true) false f0 139 cs0.toList = some (Lib.tabData .i64 [1, 3, 5, 7, 0, 2, 4, 6], p0) := hd0
  have h2 := Lib.cells_of_tab Tryd.underlying139 Tryd.underlying3 c3' c139 hd1
  intro i hi
  have := World.var?_cell hg0 hv0 i
  rw [this]
  have e : cs0[i]? = cs0.toList[i]? := by simp
  rw [e, h2]
  rcases k8 hi with rfl | rfl | rfl | rfl | rfl | rfl | rfl | rfl <;> rfl

theorem law_met2 (os : Os) (args : Array Value) : laidMetH Tryd.prog bothLaid ((World.doorLaid Tryd.prog 27 os).forCall (fun _ _ => 0) ⟨#[], args, []⟩).memory :=
  laidMetH_of_parts3 (fuel := 8) (laidMet_of_run' 8 (by kernel_rfl) (by kernel_rfl)) (by kernel_rfl) (by kernel_rfl)
end Go.Proofs.YtfhicijgpdpfpaaDoor
