/-
  Texts laid together: Steps, Frame, EdgesIn.
-/
import Derived.Test.YtmnpplkjhnoglaaGreatDoorP48
import Derived.ProofKit
import Derived.LaidMore
import Derived.OpenShut
import Derived.Stop.Joined
import Derived.Lib.LaidTab
import Derived.Test.YtmnpplkjhnoglaaGreatDoorTie
import Derived.Test.YtmnpplkjhnoglaaGreatDoorCards
import Derived.ChangeMaps5
import Derived.SevenTiedAt
import Derived.Lib.SmallJoins
import Derived.Deep.Slices
/-
  The table of steps, read off the row's listed variable.
-/
namespace Go.Proofs.YtmnpplkjhnoglaaGreatDoor
open Go.ChangeShapes Go.WideShapes Go.ChangeAt Go.RowKit

theorem gSteps : Tryz.prog.globalNamed "fellrunner/grid.steps" = some 0 := by kernel_rfl
theorem tSteps : (Tryz.prog.globals[0]?).map (·.type) = some 213 := by kernel_rfl
theorem c60 : Tryz.prog.cellsOf 212 = 2 := by kernel_rfl
theorem c3' : Tryz.prog.cellsOf 3 = 1 := by kernel_rfl
abbrev stepsLaid : List (String × DataW Unit) := [("fellrunner/grid.steps", Rows.laid_fellrunner_grid_steps)]

theorem lt_of_cell {w : World} {b o : Nat} {v : Value} (h : w.cell? ⟨b, o, none⟩ = some v) : b < w.heap.size := by
  by_cases hb : b < w.heap.size
  · exact hb
  · unfold World.cell? at h
    rw [Array.getElem?_eq_none (by simpa using hb)] at h
    simp at h

theorem steps_of {W : World} (h : laidMetH Tryz.prog stepsLaid W) : StepsAt W ∧ 0 < W.heap.size := by
  rw [MakeChecks.laidMetH_plain _ _ _ (by kernel_rfl)] at h
  obtain ⟨ps, ⟨g0, t0, cs0, f0, p0, q0, hg0, ht0, hv0, hd0, _, _⟩, _, _⟩ := h
  obtain rfl := Option.some.inj (gSteps.symm.trans hg0)
  obtain rfl := Option.some.inj (tSteps.symm.trans ht0)
  obtain ⟨xs, m, _, hx1, hlen, hn, hel⟩ := DataW.trod_array Tryz.underlying213 hd0
  simp only [Prod.mk.injEq] at hx1
  have hxa := hx1.1
  have key : ∀ i, i < 8 → cs0.toList[2 * i]? = some (.int .i64 (stepX i)) ∧ cs0.toList[2 * i + 1]? = some (.int .i64 (stepY i)) := by
    intro i hi
    have h1 := hel i hi
    rw [c60] at h1
    have hxi : ∃ p, xs[i]? = some (Lib.tabData .i64 [stepX i, stepY i], p) := by
      have hlt : i < xs.length := by omega
      refine ⟨xs[i].2, ?_⟩
      rw [List.getElem?_eq_getElem hlt]
      have e2 : (xs.map (·.1))[i]? = some xs[i].1 := by rw [List.getElem?_map, List.getElem?_eq_getElem hlt]; rfl
      simp only [Rows.laid_fellrunner_grid_steps, DataW.agg.injEq] at hxa
      rw [← hxa] at e2
      have hks : i = 0 ∨ i = 1 ∨ i = 2 ∨ i = 3 ∨ i = 4 ∨ i = 5 ∨ i = 6 ∨ i = 7 := by omega
      rcases hks with rfl | rfl | rfl | rfl | rfl | rfl | rfl | rfl <;>
        (simp at e2; exact congrArg some (Prod.ext e2.symm rfl))
    obtain ⟨p, hp⟩ := hxi
    rw [hp] at h1
    have h2 := Lib.cells_of_tab Tryz.underlying212 Tryz.underlying3 c3' c60 h1
    have a0 : ((cs0.toList.drop (i * 2)).take 2)[0]? = cs0.toList[2 * i]? := by
      rw [List.getElem?_take_of_lt (by decide), List.getElem?_drop]; congr 1; omega
    have a1 : ((cs0.toList.drop (i * 2)).take 2)[1]? = cs0.toList[2 * i + 1]? := by
      rw [List.getElem?_take_of_lt (by decide), List.getElem?_drop]; congr 1; omega
    rw [h2] at a0 a1
    exact ⟨a0.symm, a1.symm⟩
  have cell : ∀ i, W.cell? ⟨0, i, none⟩ = cs0.toList[i]? := fun i => by
    have := World.var?_cell hg0 hv0 i
    rw [this]; simp
  refine ⟨fun i hi => ⟨by rw [cell]; exact (key i hi).1, by rw [cell]; exact (key i hi).2⟩, ?_⟩
  exact lt_of_cell ((cell 0).trans (key 0 (by decide)).1)
end Go.Proofs.YtmnpplkjhnoglaaGreatDoor
/-
  What the frames of this seat's laws have in common: how lists that come in lie in memory.
-/
namespace Go.Proofs.YtmnpplkjhnoglaaGreatDoor
open Go.ChangeShapes Go.WideShapes Go.ChangeAt Go.RowKit Go.Joins

theorem Tryz.own : ownKnob Tryz.prog.godebug = none := by kernel_rfl
theorem Tryz.laidOut : laidOutB Tryz.prog = true := by kernel_rfl
theorem Tryz.cells24 : Tryz.prog.cellsOf 24 = 3 := by kernel_rfl

theorem law_met (os : Os) (args : Array Value) : laidMetH Tryz.prog stepsLaid ((World.doorLaid Tryz.prog 27 os).forCall (fun _ _ => 0) ⟨#[], args, []⟩).memory :=
  laidMetH_of_parts3 (fuel := 8) (laidMet_of_run' 8 (by kernel_rfl) (by kernel_rfl)) (by kernel_rfl) (by kernel_rfl)

/-- a slice of integers that came in, as a row of old memory -/
theorem row_in {H : Type} {enc : TypeId × Value → H} {W : World} {sp : Nat → Bool} {held : Bool} {fuel : Nat} {c : Value} {x : DataW H × List MemPlace} (h : DataW.trod enc Tryz.prog W 0 sp held fuel 22 [c] = some x) :
    ∃ A n cap xs, c = .slice A n cap ∧ n ≤ maxLen ∧ OldRow W A n xs := by
  rcases open_ints Tryz.underlying22 Tryz.underlying3 (by kernel_rfl) h with ⟨hcs, _⟩ | ⟨a, l, cap, zs, hcs, _, hl, hm, hz, _, hcell, _⟩
  · simp at hcs
    exact ⟨none, 0, 0, fun _ => 0, hcs, by unfold maxLen; omega, fun i hi => absurd hi (Nat.not_lt_zero i)⟩
  · simp at hcs
    refine ⟨some a, l, cap, fun i => zs.getD i 0, hcs, Nat.le_trans hl hm, fun i hi => ?_⟩
    have hzl : i < zs.length := by rw [hz]; split <;> omega
    obtain ⟨b, off, rfl, hc⟩ := ints_at hcell (by omega)
    exact ⟨b, off, rfl, lt_of_cell (hc i hzl), hc i hzl⟩

end Go.Proofs.YtmnpplkjhnoglaaGreatDoor
/-
  How a list of edges that comes in lies in memory.
-/
namespace Go.Proofs.YtmnpplkjhnoglaaGreatDoor
open Go.ChangeShapes Go.WideShapes Go.ChangeAt Go.RowKit Go.Joins

theorem ecells67 : Tryz.prog.cellsOf 67 = 4 := by kernel_rfl
theorem ecells65 : Tryz.prog.cellsOf 65 = 2 := by kernel_rfl
theorem ecells3 : Tryz.prog.cellsOf 3 = 1 := by kernel_rfl
section
variable {H : Type} {enc : TypeId × Value → H} {W : World} {sp : Nat → Bool} {held : Bool}
/-- a cost's two cells -/
theorem cost_in {fuel : Nat} {c1 c2 : Value} {x : DataW H × List MemPlace} (h : DataW.trod enc Tryz.prog W 0 sp held fuel 65 [c1, c2] = some x) : ∃ s d, c1 = .int .i64 s ∧ c2 = .int .i64 d := by
  obtain ⟨xs, n, _, _, _, hl, hf⟩ := DataW.trod_struct Tryz.underlying65 h
  have f0 : DataW.trod enc Tryz.prog W 0 sp held n 3 (([c1, c2].drop 0).take (Tryz.prog.cellsOf 3)) = xs[0]? := hf 0 _ rfl
  have f1 : DataW.trod enc Tryz.prog W 0 sp held n 3 (([c1, c2].drop 1).take (Tryz.prog.cellsOf 3)) = xs[1]? := hf 1 _ rfl
  have hl' : xs.length = 2 := hl
  rw [List.getElem?_eq_getElem (by omega), ecells3] at f0 f1
  obtain ⟨s, e0, _⟩ := DataW.trod_int Tryz.underlying3 f0
  obtain ⟨d, e1, _⟩ := DataW.trod_int Tryz.underlying3 f1
  simp at e0 e1
  exact ⟨s, d, e0, e1⟩
/-- an edge's four cells -/
theorem edge_in {fuel : Nat} {c0 c1 c2 c3 : Value} {x : DataW H × List MemPlace} (h : DataW.trod enc Tryz.prog W 0 sp held fuel 67 [c0, c1, c2, c3] = some x) : ∃ e : IE, c0 = .int .i64 e.to ∧ (Lit.int .i64 e.to).wf = true ∧ c1 = .int .i64 e.s ∧ c2 = .int .i64 e.d ∧ c3 = .int .i64 e.mid := by
  obtain ⟨xs, n, _, _, _, hl, hf⟩ := DataW.trod_struct Tryz.underlying67 h
  have f0 : DataW.trod enc Tryz.prog W 0 sp held n 3 (([c0, c1, c2, c3].drop 0).take (Tryz.prog.cellsOf 3)) = xs[0]? := hf 0 _ rfl
  have f1 : DataW.trod enc Tryz.prog W 0 sp held n 65 (([c0, c1, c2, c3].drop 1).take (Tryz.prog.cellsOf 65)) = xs[1]? := hf 1 _ rfl
  have f2 : DataW.trod enc Tryz.prog W 0 sp held n 3 (([c0, c1, c2, c3].drop 3).take (Tryz.prog.cellsOf 3)) = xs[2]? := hf 2 _ rfl
  have hl' : xs.length = 3 := hl
  rw [List.getElem?_eq_getElem (by omega)] at f0 f1 f2
  rw [ecells3] at f0 f2
  rw [ecells65] at f1
  obtain ⟨t, e0, _, e1⟩ := DataW.trod_int Tryz.underlying3 f0
  obtain ⟨s, d, e2, e3⟩ := cost_in f1
  obtain ⟨m, e4, _⟩ := DataW.trod_int Tryz.underlying3 f2
  simp at e0 e4
  exact ⟨⟨t, s, d, m⟩, e0, e1, e2, e3, e4⟩
/-- the edges that came in -/
theorem edges_in {fuel : Nat} {c : Value} {x : DataW H × List MemPlace} (h : DataW.trod enc Tryz.prog W 0 sp held fuel 52 [c] = some x) :
    ∃ A cap, ∃ l : List IE, c = .slice A l.length cap ∧ l.length ≤ maxLen ∧ RowI W A l := by
  rcases Go.Deep.open_slice Tryz.underlying52 h with ⟨hcs, _⟩ | ⟨a, len, cap, m, k, D, Pl, hcs, _, hl, hm, hmm, _, hx⟩
  · simp at hcs
    exact ⟨none, 0, [], hcs, by unfold maxLen; simp, fun i e hi => by cases hi⟩
  · simp at hcs
    have hlm : len ≤ m := by rw [hmm]; split <;> omega
    rw [ecells67] at hx
    have hspot : 0 < len → a.spot = none := by
      intro h0
      obtain ⟨cs', h1, _⟩ := hx 0 (by omega)
      obtain ⟨_, hlen, hc⟩ := World.cells?_some h1
      have g0 := hc 0 (by omega)
      rw [Go.Deep.add_add, List.getElem?_eq_getElem (by omega)] at g0
      simpa [Addr.add] using World.cell?_spot g0
    have key : ∀ i, i < len → ∃ y : IE, (Lit.int .i64 y.to).wf = true ∧ ∃ b o, a = ⟨b, o, none⟩ ∧ W.cell? ⟨b, o + i * 4, none⟩ = some (.int .i64 y.to) ∧ W.cell? ⟨b, o + i * 4 + 1, none⟩ = some (.int .i64 y.s) ∧ W.cell? ⟨b, o + i * 4 + 2, none⟩ = some (.int .i64 y.d) ∧ W.cell? ⟨b, o + i * 4 + 3, none⟩ = some (.int .i64 y.mid) := by
      intro i hi
      obtain ⟨cs', h1, h2⟩ := hx i (by omega)
      obtain ⟨_, hlen, hc⟩ := World.cells?_some h1
      match cs', hlen with
      | [c0, c1, c2, c3], _ =>
        obtain ⟨y, rfl, hw, rfl, rfl, rfl⟩ := edge_in h2
        have g0 := hc 0 (by omega)
        have g1 := hc 1 (by omega)
        have g2 := hc 2 (by omega)
        have g3 := hc 3 (by omega)
        rw [Go.Deep.add_add] at g0 g1 g2 g3
        simp at g0 g1 g2 g3
        have hs := hspot (by omega)
        obtain ⟨b, o, spot⟩ := a
        simp only at hs
        subst hs
        rw [Go.WideShapes.add_plain] at g0 g1 g2 g3
        exact ⟨y, hw, b, o, rfl, g0, by rw [Nat.add_assoc]; exact g1, by rw [Nat.add_assoc]; exact g2, by rw [Nat.add_assoc]; exact g3⟩
    obtain ⟨xs, hxs⟩ := @Go.Deep.choose_lt IE ⟨⟨0, 0, 0, 0⟩⟩ len _ key
    refine ⟨some a, cap, (List.range len).map xs, by rw [List.length_map, List.length_range]; exact hcs, by rw [List.length_map, List.length_range]; exact Nat.le_trans hl hm, fun i e hi => ?_⟩
    have hil : i < len := by
      have := (List.getElem?_eq_some_iff.1 hi).1
      simpa using this
    rw [List.getElem?_map, List.getElem?_range hil] at hi
    cases hi
    obtain ⟨hw, b, o, rfl, h0⟩ := hxs i hil
    exact ⟨hw, b, o, rfl, h0⟩
end
end Go.Proofs.YtmnpplkjhnoglaaGreatDoor
