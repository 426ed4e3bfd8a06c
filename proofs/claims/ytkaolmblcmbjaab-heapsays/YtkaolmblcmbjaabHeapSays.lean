/-
  Proved: for every list of pushes and pops 'HeapSays' returns true and its argument reads afterwards as it read before; no condition.
-/
import Derived.Test.YtkaolmblcmbjaabHeapSaysRound
import Derived.ProofKit
import Derived.OpenShut
import Derived.Deep.Slices
import Derived.Lib.SmallJoins
namespace Go.Proofs.Ytkaolmblcmbjaab
open Go.ChangeShapes Go.WideShapes Go.ChangeAt Go.RowKit Go.Joins

theorem Try.own : ownKnob Try.prog.godebug = none := by kernel_rfl
theorem Try.laidOut : laidOutB Try.prog = true := by kernel_rfl
theorem Try.cells33 : Try.prog.cellsOf 33 = 4 := by kernel_rfl
theorem Try.cells31 : Try.prog.cellsOf 31 = 2 := by kernel_rfl
theorem Try.cells3 : Try.prog.cellsOf 3 = 1 := by kernel_rfl
theorem Try.cells4 : Try.prog.cellsOf 4 = 1 := by kernel_rfl

section
variable {H : Type} {enc : TypeId × Value → H} {W : World} {sp : Nat → Bool} {held : Bool}

/-- a cost's two cells -/
theorem cost_in {fuel : Nat} {c1 c2 : Value} {x : DataW H × List MemPlace} (h : DataW.trod enc Try.prog W 0 sp held fuel 31 [c1, c2] = some x) : ∃ s d, c1 = .int .i64 s ∧ c2 = .int .i64 d := by
  obtain ⟨xs, n, _, _, _, hl, hf⟩ := DataW.trod_struct Try.underlying31 h
  have f0 : DataW.trod enc Try.prog W 0 sp held n 3 (([c1, c2].drop 0).take (Try.prog.cellsOf 3)) = xs[0]? := hf 0 _ rfl
  have f1 : DataW.trod enc Try.prog W 0 sp held n 3 (([c1, c2].drop 1).take (Try.prog.cellsOf 3)) = xs[1]? := hf 1 _ rfl
  have hl' : xs.length = 2 := hl
  rw [List.getElem?_eq_getElem (by omega), Try.cells3] at f0 f1
  obtain ⟨s, e0, _⟩ := DataW.trod_int Try.underlying3 f0
  obtain ⟨d, e1, _⟩ := DataW.trod_int Try.underlying3 f1
  simp at e0 e1
  exact ⟨s, d, e0, e1⟩

/-- a push's four cells -/
theorem push_in {fuel : Nat} {c0 c1 c2 c3 : Value} {x : DataW H × List MemPlace} (h : DataW.trod enc Try.prog W 0 sp held fuel 33 [c0, c1, c2, c3] = some x) :
    ∃ i s d b, c0 = .int .i64 i ∧ c1 = .int .i64 s ∧ c2 = .int .i64 d ∧ c3 = .bool b ∧ (Lit.int .i64 i).wf = true := by
  obtain ⟨xs, n, _, _, _, hl, hf⟩ := DataW.trod_struct Try.underlying33 h
  have f0 : DataW.trod enc Try.prog W 0 sp held n 3 (([c0, c1, c2, c3].drop 0).take (Try.prog.cellsOf 3)) = xs[0]? := hf 0 _ rfl
  have f1 : DataW.trod enc Try.prog W 0 sp held n 31 (([c0, c1, c2, c3].drop 1).take (Try.prog.cellsOf 31)) = xs[1]? := hf 1 _ rfl
  have f2 : DataW.trod enc Try.prog W 0 sp held n 4 (([c0, c1, c2, c3].drop 3).take (Try.prog.cellsOf 4)) = xs[2]? := hf 2 _ rfl
  have hl' : xs.length = 3 := hl
  rw [List.getElem?_eq_getElem (by omega), Try.cells3] at f0
  rw [List.getElem?_eq_getElem (by omega), Try.cells31] at f1
  rw [List.getElem?_eq_getElem (by omega), Try.cells4] at f2
  obtain ⟨i, e0, _, wi⟩ := DataW.trod_int Try.underlying3 f0
  obtain ⟨b, e3, _⟩ := DataW.trod_bool Try.underlying4 f2
  obtain ⟨s, d, e1, e2⟩ := cost_in f1
  simp at e0 e3
  exact ⟨i, s, d, b, e0, e1, e2, e3, wi⟩

/-- the pushes that came in -/
theorem pushes_in {fuel : Nat} {c : Value} {x : DataW H × List MemPlace} (h : DataW.trod enc Try.prog W 0 sp held fuel 22 [c] = some x) :
    ∃ A n cap xs, c = .slice A n cap ∧ n ≤ maxLen ∧ OldPush W A n xs := by
  rcases Go.Deep.open_slice Try.underlying22 h with ⟨hcs, _⟩ | ⟨a, len, cap, m, k, D, Pl, hcs, _, hl, hm, hmm, _, hx⟩
  · simp at hcs
    exact ⟨none, 0, 0, fun _ => ⟨0, 0, 0, false⟩, hcs, by unfold maxLen; omega, fun i hi => absurd hi (Nat.not_lt_zero i)⟩
  · simp at hcs
    have hlm : len ≤ m := by rw [hmm]; split <;> omega
    rw [Try.cells33] at hx
    have hspot : 0 < len → a.spot = none := by
      intro h0
      obtain ⟨cs', h1, _⟩ := hx 0 (by omega)
      obtain ⟨_, hlen, hc⟩ := World.cells?_some h1
      have g0 := hc 0 (by omega)
      rw [Go.Deep.add_add, List.getElem?_eq_getElem (by omega)] at g0
      simpa [Addr.add] using World.cell?_spot g0
    have key : ∀ i, i < len → ∃ y : PushV, ∃ b o, a = ⟨b, o, none⟩ ∧ b < W.heap.size ∧ W.cell? ⟨b, o + i * 4, none⟩ = some (.int .i64 y.id) ∧ W.cell? ⟨b, o + i * 4 + 1, none⟩ = some (.int .i64 y.s) ∧ W.cell? ⟨b, o + i * 4 + 2, none⟩ = some (.int .i64 y.d) ∧ W.cell? ⟨b, o + i * 4 + 3, none⟩ = some (.bool y.pop) ∧ (Lit.int .i64 y.id).wf = true := by
      intro i hi
      obtain ⟨cs', h1, h2⟩ := hx i (by omega)
      obtain ⟨_, hlen, hc⟩ := World.cells?_some h1
      match cs', hlen with
      | [c0, c1, c2, c3], _ =>
        obtain ⟨i', s, d, bb, rfl, rfl, rfl, rfl, wi⟩ := push_in h2
        have g0 := hc 0 (by omega)
        have g1 := hc 1 (by omega)
        have g2 := hc 2 (by omega)
        have g3 := hc 3 (by omega)
        rw [Go.Deep.add_add] at g0 g1 g2 g3
        simp at g0 g1 g2 g3
        have hs := hspot (by omega)
        obtain ⟨b, o, spot⟩ := a
        simp only at hs
        subst hs
        rw [Go.WideShapes.add_plain] at g0 g1 g2 g3
        exact ⟨⟨i', s, d, bb⟩, b, o, rfl, World.block_lt_of_cell? W _ g0, g0, by rw [Nat.add_assoc]; exact g1, by rw [Nat.add_assoc]; exact g2, by rw [Nat.add_assoc]; exact g3, wi⟩
    obtain ⟨xs, hxs⟩ := @Go.Deep.choose_lt PushV ⟨⟨0, 0, 0, false⟩⟩ len _ key
    refine ⟨some a, len, cap, xs, hcs, Nat.le_trans hl hm, fun i hi => ?_⟩
    obtain ⟨b, o, rfl, h0⟩ := hxs i hi
    exact ⟨b, o, rfl, h0⟩
end

set_option maxRecDepth 100000 in
theorem heapSays_lifted (os : Os) (started : os.Started) (H : Type) (enc : TypeId × Value → H) :
    ReturnsInHanded {} Try.checked os 3 .any (Rows.heapSaysSpec.pre6 enc Try.prog Try.f3 Rows.heapSaysRow.domain false) (Rows.heapSaysSpec.post enc Try.prog Try.f3 false true false false) := by
  refine returnsInHanded_of_change (C := Try.checked) Try.own started (by kernel_rfl) Try.func3
    (ChangeSpec.witness6 (enc := enc) (C := Try.checked) false ⟨#[], #[.slice none 0 0], []⟩ 8 (by kernel_rfl) (by kernel_rfl) (by kernel_rfl) (by kernel_rfl)) ?_
  intro W base args ds gs before hval0 hW hcnd _
  have hval : ∀ (j : Nat) t v, Try.f3.params[j]? = some t → args[j]? = some v → Value.okWide Try.prog W .any base t v := hval0
  have hW' := hW
  obtain ⟨p, q, hA0, hV, rfl, hfz, hnd⟩ := hW
  have hA : DataW.TrodAll enc Try.prog W 0 (fun _ => true) true Try.f3.params.toList args.toList ds p := hA0
  rw [Try.params3] at hA hval
  obtain ⟨v0, d0, rfl, rfl, h0⟩ := trodAll_one hA
  obtain ⟨rfl, rfl⟩ := trodVars_none hV
  have k0 := h0
  have lt0 : ∀ x ∈ p, x.block < W.heap.size := by obtain ⟨m, hm⟩ := k0; exact DataW.trod_lt m _ _ _ hm
  obtain ⟨A2, n2, c2, rfl⟩ := okWide_slice Try.underlying22 (hval 0 22 v0 rfl rfl)
  obtain ⟨m0, hm0⟩ := h0
  obtain ⟨A, n, cap, xs, e2, hn, hx⟩ := pushes_in (by simpa [Value.cells] using hm0)
  simp only [Value.slice.injEq] at e2
  obtain ⟨rfl, rfl, rfl⟩ := e2
  clear hA0 hval0
  refine (heapSays_any _ _ _ xs W hn hx).mono fun e W' ⟨he, hg⟩ => ?_
  subst he
  exact ⟨_, rfl, _, _, _, [], _, [], hW', trodAll_mk1 (shut_bool Try.underlying4 _), trodAll_mk1 (Below.trod Try.laidOut (by kernel_rfl) (of_decide_eq_true (by kernel_rfl)) k0 hg lt0), rfl, hg.frame _, fun h => by cases h⟩

theorem heapSays_holds : Rows.HeapSaysSaid :=
  OpenClaim.holds_of_wide 3 Try.f3 rfl rfl rfl rfl rfl rfl rfl ⟨rfl, rfl, rfl, rfl, rfl⟩ rfl rfl rfl rfl rfl (by kernel_rfl) Try.func3 (by kernel_rfl)
    (of_decide_eq_true (by kernel_rfl)) (by unfold Func.isWrapper; first | (rw [if_pos (by decide +kernel)]; kernel_rfl) | (rw [if_neg (by decide +kernel)]; exact ⟨rfl, rfl⟩))
    (fun os started H enc _ => heapSays_lifted os started H enc)

#print axioms heapSays_holds
end Go.Proofs.Ytkaolmblcmbjaab
