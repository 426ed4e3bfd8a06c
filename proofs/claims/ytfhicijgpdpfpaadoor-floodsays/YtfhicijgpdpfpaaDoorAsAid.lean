/-
  Small facts for the walk of 'asGrid'.
-/
import Derived.Test.YtfhicijgpdpfpaaDoorRMoves
import Derived.Test.YtfhicijgpdpfpaaDoorDirs
namespace Go.Proofs.YtfhicijgpdpfpaaDoor
open Go.RowKit

theorem Calls.quiet_off_same {P : Program} {f : FuncId} {args : Array Value} {w : World} {a n : Nat} {v : Value}
    (h : Calls P f args (w.drewN (a + n)) fun e w' => e = .returned v ∧ w' = w.drewN (a + n)) : Calls P f args (w.drewN (a + n)) fun e w'' => e = .returned v ∧ ∃ m, w'' = w.drewN (a + m) :=
  h.mono fun _ _ ⟨he, hm⟩ => ⟨he, n, hm⟩

/-- two rows of the same numbers -/
theorem sameRows {w : World} {A B : Option Addr} {n ca cb : Nat} {xs : Nat → Int} (hn : n ≤ 1000000) (hA : OldRow w A n xs) (hB : OldRow w B n xs) :
    Calls Tryd.prog 32 #[.slice A n ca, .slice B n cb] w fun e w' => e = .returned (.bool true) ∧ ∃ m, w' = w.drewN m := by
  by_cases h0 : n = 0
  · subst h0
    exact sameNumbers_zero A B ca cb w
  · obtain ⟨b, o, rfl, _, _⟩ := hA 0 (by omega)
    obtain ⟨b2, o2, rfl, _, _⟩ := hB 0 (by omega)
    refine sameNumbers_pos b o b2 o2 n ca cb xs w hn (fun i hi => ?_) (fun i hi => ?_)
    · obtain ⟨b', o', e, _, hc⟩ := hA i hi
      cases e
      exact hc
    · obtain ⟨b', o', e, _, hc⟩ := hB i hi
      cases e
      exact hc

theorem rmoves_v {b : Nat} {W H V c : Int} {bl : Nat → Bool} {l : List Nat} (hl : DirsOf W H bl c l) (w : World) (g : RefAt w b W H V bl) (hr : inB W H c = true) (hb : b < w.heap.size) :
    Calls Tryd.prog 24 #[.pointer (some ⟨b, 0, none⟩), .int .i64 c] w fun e w' => ∃ A cap, e = .returned (.slice A l.length cap) ∧ OldRow w' A l.length (fun i => (l.getD i 0 : Nat)) ∧ Below w.heap.size w w' :=
  (rmoves_in c w g hr hb).mono fun e w' ⟨v, he, hown, hbl⟩ => by
    rw [hl.eq] at hown
    obtain ⟨A, cap, rfl, hrow⟩ := row_of hown
    exact ⟨A, cap, he, hrow, hbl⟩

theorem rto_v {b : Nat} {W H V c r : Int} {bl : Nat → Bool} {d : Nat} (hr : c + (stepY d * W + stepX d) = r) (w : World) (g : RefAt w b W H V bl) (hd : d < 8) (c1 : -1000 ≤ c) (c2 : c ≤ 1000) :
    Calls Tryd.prog 48 #[.pointer (some ⟨b, 0, none⟩), .int .i64 c, .int .i64 d] w fun e w' => e = .returned (.int .i64 r) ∧ w' = w := by
  have := rto_any c d w g hd c1 c2
  rw [show c + stepX d + stepY d * W = r from by omega] at this
  exact this
theorem to_v {b : Nat} {W H V c r : Int} {bl : Nat → Bool} {d : Nat} (hr : c + (stepY d * W + stepX d) = r) (w : World) (g : GridAt w b W H V bl) (s : StepsAt w) (hd : d < 8) (c1 : -1000 ≤ c) (c2 : c ≤ 1000) :
    Calls Tryd.prog 25 #[.pointer (some ⟨b, 0, none⟩), .int .i64 c, .int .i64 d] w fun e w' => e = .returned (.int .i64 r) ∧ ∃ m, w' = w.drewN m := hr ▸ to_any c d w g s hd c1 c2

/-- both grids alike -/
structure Pair (w : World) (g m : Nat) (W H V : Int) (bl : Nat → Bool) : Prop where
  ga : GridAt w g W H V bl
  ra : RefAt w m W H V bl
  gl : g < w.heap.size
  ml : m < w.heap.size
  st : StepsAt w
  z : 0 < w.heap.size
theorem Pair.below {w w' : World} {g m : Nat} {W H V : Int} {bl : Nat → Bool} (h : Pair w g m W H V bl) (hb : Below w.heap.size w w') : Pair w' g m W H V bl :=
  ⟨h.ga.below hb h.gl, h.ra.below hb h.ml, Nat.lt_of_lt_of_le h.gl hb.size, Nat.lt_of_lt_of_le h.ml hb.size, h.st.below hb h.z, Nat.lt_of_lt_of_le h.z hb.size⟩
theorem Pair.drewN {w : World} {g m : Nat} {W H V : Int} {bl : Nat → Bool} (h : Pair w g m W H V bl) (k : Nat) : Pair (w.drewN k) g m W H V bl := ⟨h.ga.drewN k, h.ra.drewN k, h.gl, h.ml, h.st, h.z⟩
end Go.Proofs.YtfhicijgpdpfpaaDoor
