/-
  Proved: for every size and all cells set 'GridSays' returns true and its arguments read afterwards as they read before; the table of steps reads as the program's text lays it, which the given tie pays; no other condition. The tie speaks of the pruned copy of the project that the seat holds.
-/
import Derived.Test.YtmlcollooomioaaDoorGridSaysOk
import Derived.Test.YtmlcollooomioaaDoorSteps
import Derived.Test.YtmlcollooomioaaDoorTie
import Derived.Test.YtmlcollooomioaaDoorCards
import Derived.ProofKit
import Derived.LaidMore
import Derived.OpenShut
import Derived.Stop.Joined
import Derived.SevenTiedAt
import Derived.Deep.Slices
namespace Go.Proofs.YtmlcollooomioaaDoor
open Go.ChangeShapes Go.WideShapes Go.ChangeAt Go.RowKit Go.Deep

theorem Tryd.own : ownKnob Tryd.prog.godebug = none := by kernel_rfl
theorem Tryd.laidOut : laidOutB Tryd.prog = true := by kernel_rfl

theorem gridSays_any (W H : Int) (A B : Option Addr) (n ca k cb : Nat) (xs : Nat → Int) (ys : Nat → Bool) (w : World) (s : StepsAt w) (h0 : 0 < w.heap.size) (hn : n ≤ maxLen) (hk : k ≤ maxLen) (hx : OldRow w A n xs) (hy : OldBools w B k ys) :
    Calls Tryd.prog 4 #[.int .i64 W, .int .i64 H, .slice A n ca, .slice B k cb] w fun e w' => e = .returned (.bool true) ∧ Below w.heap.size w w' := by
  by_cases h1 : 200 < (n : Int)
  · exact gridSays_many W H A B n ca k cb w s h0 hn hk (.inl h1)
  · by_cases h2 : 200 < (k : Int)
    · exact gridSays_many W H A B n ca k cb w s h0 hn hk (.inr ⟨h1, h2⟩)
    · cases hW : sideB W with
      | false => exact gridSays_bad W H A B n ca k cb w s h0 h1 h2 (.inl hW)
      | true =>
        cases hH : sideB H with
        | false => exact gridSays_bad W H A B n ca k cb w s h0 h1 h2 (.inr ⟨hW, hH⟩)
        | true => exact gridSays_ok W H A B n ca k cb xs ys w s h0 h1 h2 hW hH hx hy

theorem gridSays_met (os : Os) (args : Array Value) : laidMetH Tryd.prog stepsLaid ((World.doorLaid Tryd.prog 37 os).forCall (fun _ _ => 0) ⟨#[], args, []⟩).memory :=
  laidMetH_of_parts3 (fuel := 8) (laidMet_of_run' 8 (by kernel_rfl) (by kernel_rfl)) (by kernel_rfl) (by kernel_rfl)

/-- a slice of integers that came in, as a row of old memory -/
theorem row_in {H : Type} {enc : TypeId × Value → H} {W : World} {sp : Nat → Bool} {held : Bool} {fuel : Nat} {c : Value} {x : DataW H × List MemPlace} (h : DataW.trod enc Tryd.prog W 0 sp held fuel 22 [c] = some x) :
    ∃ A n cap xs, c = .slice A n cap ∧ n ≤ maxLen ∧ OldRow W A n xs := by
  rcases open_ints Tryd.underlying22 Tryd.underlying3 (by kernel_rfl) h with ⟨hcs, _⟩ | ⟨a, l, cap, zs, hcs, _, hl, hm, hz, _, hcell, _⟩
  · simp at hcs
    exact ⟨none, 0, 0, fun _ => 0, hcs, by unfold maxLen; omega, fun i hi => absurd hi (Nat.not_lt_zero i)⟩
  · simp at hcs
    refine ⟨some a, l, cap, fun i => zs.getD i 0, hcs, Nat.le_trans hl hm, fun i hi => ?_⟩
    have hzl : i < zs.length := by rw [hz]; split <;> omega
    obtain ⟨b, off, rfl, hc⟩ := ints_at hcell (by omega)
    exact ⟨b, off, rfl, lt_of_cell (hc i hzl), hc i hzl⟩

/-- a slice of bools that came in, as a row of old memory -/
theorem bools_in {H : Type} {enc : TypeId × Value → H} {W : World} {sp : Nat → Bool} {held : Bool} {fuel : Nat} {c : Value} {x : DataW H × List MemPlace} (h : DataW.trod enc Tryd.prog W 0 sp held fuel 31 [c] = some x) :
    ∃ A n cap xs, c = .slice A n cap ∧ n ≤ maxLen ∧ OldBools W A n xs := by
  rcases open_slice1 Tryd.underlying31 (by kernel_rfl) h with ⟨hcs, _⟩ | ⟨a, l, cap, m, nn, V, Dd, Pl, hcs, _, hl, hm, hmm, _, hel⟩
  · simp at hcs
    exact ⟨none, 0, 0, fun _ => false, hcs, by unfold maxLen; omega, fun i hi => absurd hi (Nat.not_lt_zero i)⟩
  · simp at hcs
    refine ⟨some a, l, cap, fun i => match V i with | .bool q => q | _ => false, hcs, Nat.le_trans hl hm, fun i hi => ?_⟩
    have him : i < m := by rw [hmm]; split <;> omega
    obtain ⟨h1, h2⟩ := hel i him
    obtain ⟨q, hq, _⟩ := DataW.trod_bool Tryd.underlying4 h2
    simp at hq
    obtain ⟨b, off, spot⟩ := a
    have h10 := (hel 0 (by omega)).1
    have hspot : spot = none := by simpa [Addr.add] using World.cell?_spot h10
    subst hspot
    rw [Go.WideShapes.add_plain] at h1
    refine ⟨b, off, rfl, lt_of_cell h1, ?_⟩
    show _ = some (Value.bool (match V i with | .bool q => q | _ => false))
    rw [hq] at h1 ⊢
    exact h1

set_option maxRecDepth 100000 in
theorem gridSays_lifted (os : Os) (started : os.Started) (H : Type) (enc : TypeId × Value → H) :
    ReturnsInHanded {} Tryd.checked os 4 .any (fun w args => (Rows.gridSaysSpec.pre enc Tryd.prog Tryd.f4 [] false w args ∧ laidMetH Tryd.prog stepsLaid w) ∧ sizedMet enc Tryd.prog Tryd.f4 (OpenSpec.ofChange Rows.gridSaysSpec) false w args)
      (Rows.gridSaysSpec.post enc Tryd.prog Tryd.f4 false true false false) := by
  refine returnsInHanded_of_change_and (C := Tryd.checked) (X := fun w _ => laidMetH Tryd.prog stepsLaid w) (fun _ _ _ hh h => h.of_heap hh) Tryd.own started (by kernel_rfl) Tryd.func4
    (ChangeSpec.witness_shaped (enc := enc) (C := Tryd.checked) (os := os) (X := fun w _ => laidMetH Tryd.prog stepsLaid w) false (World.doorLaid Tryd.prog 37 os) #[.int .i64 0, .int .i64 0, .slice none 0 0, .slice none 0 0] 8 rfl (World.shaped_of_RefB (by kernel_rfl) (by kernel_rfl)) (by kernel_rfl) (by kernel_rfl) (by kernel_rfl) (gridSays_met os _)) ?_
  intro W base args ds gs before hval0 hW _ _ hL _
  have hval : ∀ (j : Nat) t v, Tryd.f4.params[j]? = some t → args[j]? = some v → Value.okWide Tryd.prog W .any base t v := hval0
  have hW' := hW
  obtain ⟨p, q, hA0, hV, rfl, hfz, hnd⟩ := hW
  have hA : DataW.TrodAll enc Tryd.prog W 0 (fun _ => true) true Tryd.f4.params.toList args.toList ds p := hA0
  rw [Tryd.params4] at hA hval
  obtain ⟨v0, vs0, d0, ds0, p0, q0, hargs, rfl, rfl, h0, r0⟩ := trodAll_cons hA
  obtain ⟨v1, vs1, d1, ds1, p1, q1, rfl, rfl, rfl, h1, r1⟩ := trodAll_cons r0
  obtain ⟨v2, vs2, d2, ds2, p2, q2, rfl, rfl, rfl, h2, r2⟩ := trodAll_cons r1
  obtain ⟨v3, vs3, d3, ds3, p3, q3, rfl, rfl, rfl, h3, r3⟩ := trodAll_cons r2
  obtain ⟨rfl, rfl, rfl⟩ := trodAll_nil r3
  obtain rfl : args = #[v0, v1, v2, v3] := by cases args; simp_all
  obtain ⟨rfl, rfl⟩ := trodVars_none hV
  obtain ⟨a, rfl, rfl, rfl, wa⟩ := open_int Tryd.underlying3 (hval 0 3 v0 rfl rfl) h0
  obtain ⟨b, rfl, rfl, rfl, wb⟩ := open_int Tryd.underlying3 (hval 1 3 v1 rfl rfl) h1
  have k2 := h2
  have k3 := h3
  have lt2 : ∀ x ∈ p2, x.block < W.heap.size := by obtain ⟨m, hm⟩ := k2; exact DataW.trod_lt m _ _ _ hm
  have lt3 : ∀ x ∈ p3, x.block < W.heap.size := by obtain ⟨m, hm⟩ := k3; exact DataW.trod_lt m _ _ _ hm
  obtain ⟨A2, n2, c2, rfl⟩ := okWide_slice Tryd.underlying22 (hval 2 22 v2 rfl rfl)
  obtain ⟨A3, n3, c3, rfl⟩ := okWide_slice Tryd.underlying31 (hval 3 31 v3 rfl rfl)
  obtain ⟨m2, hm2⟩ := h2
  obtain ⟨m3, hm3⟩ := h3
  obtain ⟨A, n, cap, xs, e2, hn, hx⟩ := row_in (by simpa [Value.cells] using hm2)
  obtain ⟨B, k, cap2, ys, e3, hk, hy⟩ := bools_in (by simpa [Value.cells] using hm3)
  simp only [Value.slice.injEq] at e2 e3
  obtain ⟨rfl, rfl, rfl⟩ := e2
  obtain ⟨rfl, rfl, rfl⟩ := e3
  obtain ⟨s, hpos⟩ := steps_of hL
  clear hA0 hval0
  refine (gridSays_any a b _ _ _ _ _ _ xs ys W s hpos hn hk hx hy).mono fun e W' ⟨he, hg⟩ => ?_
  subst he
  exact ⟨_, rfl, _, _, _, [], _, [], hW', trodAll_mk1 (shut_bool Tryd.underlying4 _), (trodAll_cons_mk (shut_int Tryd.underlying3 wa) (trodAll_cons_mk (shut_int Tryd.underlying3 wb) (trodAll_cons_mk (Below.trod Tryd.laidOut (by kernel_rfl) (of_decide_eq_true (by kernel_rfl)) k2 hg lt2) (trodAll_cons_mk (Below.trod Tryd.laidOut (by kernel_rfl) (of_decide_eq_true (by kernel_rfl)) k3 hg lt3) trodAll_mk0)))), rfl, hg.frame _, fun h => by cases h⟩

theorem gridSays_row : Rows.GridSaysSaid :=
  OpenClaim.holds_of_wide 4 Tryd.f4 rfl rfl rfl rfl rfl rfl rfl ⟨rfl, rfl, rfl, rfl, rfl⟩ rfl rfl rfl rfl rfl (by kernel_rfl) Tryd.func4 (by kernel_rfl)
    (of_decide_eq_true (by kernel_rfl)) (by unfold Func.isWrapper; first | (rw [if_pos (by decide +kernel)]; kernel_rfl) | (rw [if_neg (by decide +kernel)]; exact ⟨rfl, rfl⟩))
    (fun os started H enc _ => gridSays_lifted os started H enc)

theorem gridSays_holds : Rows.GridSaysCardSaid :=
  Claim7.holds_tied_plain_at .later [] [.data] true (true, "8b5abbc6dba656bd375eb239c172760dba5c93135eab9e3713e230b590aef8b8") true
    gridSays_row (fun _ h => by cases h) (by kernel_rfl) (fun _ h => by cases h) gridSays_row_tie rfl ⟨rfl, rfl⟩ (by kernel_rfl) rfl
    (fun f fn hf hfn => by
      obtain rfl : f = 4 := Option.some.inj ((show Tryd.prog.funcNamed "fellrunner/fellrunnerlaw.GridSays" = some 4 by kernel_rfl).symm.trans hf) |>.symm
      obtain rfl : fn = Tryd.f4 := (Option.some.inj (Tryd.func4.symm.trans hfn)).symm
      exact ⟨by kernel_rfl, fun j t ht => by
        rw [Tryd.params4] at ht
        have hm : t ∈ [3, 3, 22, 31] := by simpa using Array.mem_of_getElem? ht
        have hall : ([3, 3, 22, 31].all fun u => !Tryd.prog.wantsStandIn u) = true := by kernel_rfl
        exact (show Tryd.prog.wantsStandIn t = false by simpa using List.all_eq_true.1 hall t hm)⟩)
    (by kernel_rfl)
#print axioms gridSays_holds
end Go.Proofs.YtmlcollooomioaaDoor
