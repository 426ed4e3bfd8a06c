/-
  Rows of directions.
-/
import Derived.Test.YtfhicijgpdpfpaaDoorLaid
import Derived.Test.YtfhicijgpdpfpaaDoorBack
import Derived.Deep.LoopGhost
import Derived.Deep.Light
namespace Go.Proofs.YtfhicijgpdpfpaaDoor
open Go.RowKit

theorem OldRow.below {w w' : World} {A : Option Addr} {n : Nat} {xs : Nat → Int} (h : OldRow w A n xs) (hb : Below w.heap.size w w') : OldRow w' A n xs := fun i hi => by
  obtain ⟨b, o, e, hlt, hc⟩ := h i hi
  exact ⟨b, o, e, Nat.lt_of_lt_of_le hlt hb.size, (hb.cell (p := ⟨b, o + i, none⟩) hlt).trans hc⟩

theorem OldRow.drewN {w : World} {A : Option Addr} {n : Nat} {xs : Nat → Int} (h : OldRow w A n xs) (m : Nat) : OldRow (w.drewN m) A n xs := h

/-- a list of directions as a row -/
theorem row_of {w : World} {base : Nat} {v : Value} {l : List Nat} (h : w.ownsRow base 3 1 v l.length (vals l)) : ∃ A cap, v = .slice A l.length cap ∧ OldRow w A l.length (fun i => (l.getD i 0 : Nat)) := by
  rcases h.2 with ⟨hv, h0⟩ | ⟨g, cap, cur, hv, hb, hg, _, _, hsz, htk⟩
  · refine ⟨none, 0, by rw [h0]; exact hv, fun i hi => absurd hi (by omega)⟩
  · refine ⟨_, cap, hv, fun i hi => ⟨g, 0, rfl, (Array.getElem?_eq_some_iff.1 hg).1, ?_⟩⟩
    subst hv
    have := h.cellAt i (by omega)
    rw [Nat.zero_add, this]
    rw [List.getElem?_map, List.getElem?_eq_getElem hi]
    show _ = some (Value.int .i64 ((l.getD i 0 : Nat) : Int))
    rw [getD_at _ _ hi]
    rfl

theorem Calls.quiet_off {P : Program} {f : FuncId} {args : Array Value} {w : World} {a n : Nat} {v : Value}
    (h : Calls P f args (w.drewN (a + n)) fun e w' => e = .returned v ∧ ∃ m, w' = (w.drewN (a + n)).drewN m) : Calls P f args (w.drewN (a + n)) fun e w'' => e = .returned v ∧ ∃ m, w'' = w.drewN (a + m) :=
  h.mono fun _ _ ⟨he, m, hm⟩ => ⟨he, n + m, by rw [hm, World.drewN_drewN, Nat.add_assoc]⟩

/-- the directions from a cell: a short rising list, each below 8, each with a way back -/
structure DirsOf (W H : Int) (bl : Nat → Bool) (c : Int) (l : List Nat) : Prop where
  eq : mvs W H bl (c % W) (c / W) 8 = l
  len : l.length ≤ 8
  lt : ∀ i, i < l.length → l.getD i 0 < 8
  rise : ∀ i, 0 < i → i < l.length → l.getD (i - 1) 0 < l.getD i 0
  back : ∀ i, i < l.length → inB W H (c + (stepY (l.getD i 0) * W + stepX (l.getD i 0))) = true ∧
    ∀ l', mvs W H bl ((c + (stepY (l.getD i 0) * W + stepX (l.getD i 0))) % W) ((c + (stepY (l.getD i 0) * W + stepX (l.getD i 0))) / W) 8 = l' → ∃ j, j < l'.length ∧ l'.getD j 0 = opp (l.getD i 0)

theorem dirsOf {W H : Int} (bl : Nat → Bool) (c : Int) (w1 : 1 ≤ W) : ∃ l, DirsOf W H bl c l :=
  ⟨_, rfl, mvs_len _ _ _ _ _ _, fun _ hi => (mvs_at hi).1, fun _ h0 hi => mvs_rise h0 hi, fun _ hi => ⟨(back_facts w1 (mvs_at hi).1 (mvs_at hi).2).1, fun _ e => e ▸ (back_facts w1 (mvs_at hi).1 (mvs_at hi).2).2⟩⟩

theorem moves_v {b : Nat} {W H V c : Int} {bl : Nat → Bool} {l : List Nat} (hl : DirsOf W H bl c l) (w : World) (g : GridAt w b W H V bl) (s : StepsAt w) (hr : inB W H c = true) (hb : b < w.heap.size) :
    Calls Tryd.prog 96 #[.pointer (some ⟨b, 0, none⟩), .int .i64 c] w fun e w' => ∃ A cap, e = .returned (.tuple #[.slice A l.length cap, .nilIface]) ∧ OldRow w' A l.length (fun i => (l.getD i 0 : Nat)) ∧ Below w.heap.size w w' :=
  (moves_in c w g s hr hb).mono fun e w' ⟨v, he, hown, hbl⟩ => by
    rw [hl.eq] at hown
    obtain ⟨A, cap, rfl, hrow⟩ := row_of hown
    exact ⟨A, cap, he, hrow, hbl⟩

end Go.Proofs.YtfhicijgpdpfpaaDoor
