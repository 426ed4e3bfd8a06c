/-
  Proved: for every list of numbers and every list of costs 'TopHeap' returns true and its arguments read afterwards as they read before; no condition.
-/
import Derived.Test.YtkaolmblcmbjaabTopHeapWalk
import Derived.ProofKit
import Derived.OpenShut
import Derived.Deep.Slices
import Derived.Lib.SmallJoins
namespace Go.Proofs.Ytkaolmblcmbjaab
open Go.ChangeShapes Go.WideShapes Go.ChangeAt Go.RowKit Go.Joins

theorem Try.own : ownKnob Try.prog.godebug = none := by kernel_rfl
theorem Try.laidOut : laidOutB Try.prog = true := by kernel_rfl
theorem Try.cells31 : Try.prog.cellsOf 31 = 2 := by kernel_rfl
theorem Try.cells3 : Try.prog.cellsOf 3 = 1 := by kernel_rfl

section
variable {H : Type} {enc : TypeId × Value → H} {W : World} {sp : Nat → Bool} {held : Bool}

/-- a cost's two cells -/
theorem cost_in {fuel : Nat} {c1 c2 : Value} {x : DataW H × List MemPlace} (h : DataW.trod enc Try.prog W 0 sp held fuel 31 [c1, c2] = some x) : ∃ s d, c1 = .int .i64 s ∧ c2 = .int .i64 d := by
  obtain ⟨xs, n, _, _, _, hl, hf⟩ := DataW.trod_struct Try.underlying31 h
  have f0 : DataW.trod enc Try.prog W 0 sp held n 3 (([c1, c2].drop 0).take (Try.prog.cellsOf 3)) = xs[0]? := hf 0 _ rfl
  have f1 : DataW.trod enc Try.prog W 0 sp held n 3 (([c1, c2].drop 1).take (Try.prog.cellsOf 3)) = xs[1]? := hf 1 _ rfl
  have hl' : xs.length = 2 := hl
  rw [List.getElem?_eq_getElem (by omega), Try.cells3] at f0 f1
  obtain ⟨s, e0, _⟩ := DataW.trod_int Try.underlying3 f0
  obtain ⟨d, e1, _⟩ := DataW.trod_int Try.underlying3 f1
  simp at e0 e1
  exact ⟨s, d, e0, e1⟩

/-- the numbers that came in -/
theorem ids_in {fuel : Nat} {c : Value} {x : DataW H × List MemPlace} (h : DataW.trod enc Try.prog W 0 sp held fuel 46 [c] = some x) :
    ∃ A n cap xs, c = .slice A n cap ∧ n ≤ maxLen ∧ OldIds W A n xs := by
  rcases open_ints Try.underlying46 Try.underlying3 Try.cells3 h with ⟨hcs, _⟩ | ⟨a, l, cap, zs, hcs, _, hl, hm, hz, _, hcell, hwf⟩
  · simp at hcs
    exact ⟨none, 0, 0, fun _ => 0, hcs, by unfold maxLen; omega, fun i hi => absurd hi (Nat.not_lt_zero i)⟩
  · simp at hcs
    refine ⟨some a, l, cap, fun i => zs.getD i 0, hcs, Nat.le_trans hl hm, fun i hi => ?_⟩
    have hzl : i < zs.length := by rw [hz]; split <;> omega
    obtain ⟨b, off, rfl, hc⟩ := ints_at hcell (by omega)
    refine ⟨b, off, rfl, World.block_lt_of_cell? W _ (hc i hzl), hc i hzl, hwf _ ?_⟩
    show zs.getD i 0 ∈ zs
    rw [List.getD_eq_getElem?_getD, List.getElem?_eq_getElem hzl]
    exact List.getElem_mem hzl

/-- the costs that came in -/
theorem costs_in {fuel : Nat} {c : Value} {x : DataW H × List MemPlace} (h : DataW.trod enc Try.prog W 0 sp held fuel 47 [c] = some x) :
    ∃ A n cap xs, c = .slice A n cap ∧ n ≤ maxLen ∧ OldCosts W A n xs := by
  rcases Go.Deep.open_slice Try.underlying47 h with ⟨hcs, _⟩ | ⟨a, len, cap, m, k, D, Pl, hcs, _, hl, hm, hmm, _, hx⟩
  · simp at hcs
    exact ⟨none, 0, 0, fun _ => (0, 0), hcs, by unfold maxLen; omega, fun i hi => absurd hi (Nat.not_lt_zero i)⟩
  · simp at hcs
    have hlm : len ≤ m := by rw [hmm]; split <;> omega
    rw [Try.cells31] at hx
    have hspot : 0 < len → a.spot = none := by
      intro h0
      obtain ⟨cs', h1, _⟩ := hx 0 (by omega)
      obtain ⟨_, hlen, hc⟩ := World.cells?_some h1
      have g0 := hc 0 (by omega)
      rw [Go.Deep.add_add, List.getElem?_eq_getElem (by omega)] at g0
      simpa [Addr.add] using World.cell?_spot g0
    have key : ∀ i, i < len → ∃ y : Int × Int, ∃ b o, a = ⟨b, o, none⟩ ∧ b < W.heap.size ∧ W.cell? ⟨b, o + i * 2, none⟩ = some (.int .i64 y.1) ∧ W.cell? ⟨b, o + i * 2 + 1, none⟩ = some (.int .i64 y.2) := by
      intro i hi
      obtain ⟨cs', h1, h2⟩ := hx i (by omega)
      obtain ⟨_, hlen, hc⟩ := World.cells?_some h1
      match cs', hlen with
      | [c0, c1], _ =>
        obtain ⟨s, d, rfl, rfl⟩ := cost_in h2
        have g0 := hc 0 (by omega)
        have g1 := hc 1 (by omega)
        rw [Go.Deep.add_add] at g0 g1
        simp at g0 g1
        have hs := hspot (by omega)
        obtain ⟨b, o, spot⟩ := a
        simp only at hs
        subst hs
        rw [Go.WideShapes.add_plain] at g0 g1
        exact ⟨(s, d), b, o, rfl, World.block_lt_of_cell? W _ g0, g0, by rw [Nat.add_assoc]; exact g1⟩
    obtain ⟨xs, hxs⟩ := @Go.Deep.choose_lt (Int × Int) ⟨(0, 0)⟩ len _ key
    refine ⟨some a, len, cap, xs, hcs, Nat.le_trans hl hm, fun i hi => ?_⟩
    obtain ⟨b, o, rfl, h0⟩ := hxs i hi
    exact ⟨b, o, rfl, h0⟩
end

set_option maxRecDepth 100000 in
theorem topHeap_lifted (os : Os) (started : os.Started) (H : Type) (enc : TypeId × Value → H) :
    ReturnsInHanded {} Try.checked os 4 .any (Rows.topHeapSpec.pre6 enc Try.prog Try.f4 Rows.topHeapRow.domain false) (Rows.topHeapSpec.post enc Try.prog Try.f4 false true false false) := by
  refine returnsInHanded_of_change (C := Try.checked) Try.own started (by kernel_rfl) Try.func4
    (ChangeSpec.witness6 (enc := enc) (C := Try.checked) false ⟨#[], #[.slice none 0 0, .slice none 0 0], []⟩ 8 (by kernel_rfl) (by kernel_rfl) (by kernel_rfl) (by kernel_rfl)) ?_
  intro W base args ds gs before hval0 hW hcnd _
  have hval : ∀ (j : Nat) t v, Try.f4.params[j]? = some t → args[j]? = some v → Value.okWide Try.prog W .any base t v := hval0
  have hW' := hW
  obtain ⟨p, q, hA0, hV, rfl, hfz, hnd⟩ := hW
  have hA : DataW.TrodAll enc Try.prog W 0 (fun _ => true) true Try.f4.params.toList args.toList ds p := hA0
  rw [Try.params4] at hA hval
  obtain ⟨v0, v1, d0, d1, p0, p1, rfl, rfl, rfl, h0, h1⟩ := trodAll_two hA
  obtain ⟨rfl, rfl⟩ := trodVars_none hV
  have k0 := h0
  have k1 := h1
  have lt0 : ∀ x ∈ p0, x.block < W.heap.size := by obtain ⟨m, hm⟩ := k0; exact DataW.trod_lt m _ _ _ hm
  have lt1 : ∀ x ∈ p1, x.block < W.heap.size := by obtain ⟨m, hm⟩ := k1; exact DataW.trod_lt m _ _ _ hm
  obtain ⟨A2, n2, c2, rfl⟩ := okWide_slice Try.underlying46 (hval 0 46 v0 rfl rfl)
  obtain ⟨A3, n3, c3, rfl⟩ := okWide_slice Try.underlying47 (hval 1 47 v1 rfl rfl)
  obtain ⟨m0, hm0⟩ := h0
  obtain ⟨m1, hm1⟩ := h1
  obtain ⟨A, n, cap, xs, e2, hn, hx⟩ := ids_in (by simpa [Value.cells] using hm0)
  obtain ⟨A', n', cap', cs, e3, hn', hc⟩ := costs_in (by simpa [Value.cells] using hm1)
  simp only [Value.slice.injEq] at e2 e3
  obtain ⟨rfl, rfl, rfl⟩ := e2
  obtain ⟨rfl, rfl, rfl⟩ := e3
  clear hA0 hval0
  simp only [List.append_nil] at hW'
  refine (topHeap_any _ _ _ xs _ _ _ cs W hn hn' hx hc).mono fun e W' ⟨he, hg⟩ => ?_
  subst he
  exact ⟨_, rfl, _, _, _, [], p0 ++ p1, [], hW', trodAll_mk1 (shut_bool Try.underlying4 _), trodAll_mk2 (Below.trod Try.laidOut (by kernel_rfl) (of_decide_eq_true (by kernel_rfl)) k0 hg lt0) (Below.trod Try.laidOut (by kernel_rfl) (of_decide_eq_true (by kernel_rfl)) k1 hg lt1), rfl, hg.frame _, fun h => by cases h⟩

theorem topHeap_holds : Rows.TopHeapSaid :=
  OpenClaim.holds_of_wide 4 Try.f4 rfl rfl rfl rfl rfl rfl rfl ⟨rfl, rfl, rfl, rfl, rfl⟩ rfl rfl rfl rfl rfl (by kernel_rfl) Try.func4 (by kernel_rfl)
    (of_decide_eq_true (by kernel_rfl)) (by unfold Func.isWrapper; first | (rw [if_pos (by decide +kernel)]; kernel_rfl) | (rw [if_neg (by decide +kernel)]; exact ⟨rfl, rfl⟩))
    (fun os started H enc _ => topHeap_lifted os started H enc)

#print axioms topHeap_holds
end Go.Proofs.Ytkaolmblcmbjaab
