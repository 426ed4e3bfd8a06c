/-
  A region that draws its order, whose operations only read old memory and whose callees leave old memory alone, walked once in the order of the text: the class of worlds that have at most grown since the region began.
-/
import Derived.WalkKit
import Derived.WalkSpells
import Derived.WalkLawsBesides
import Derived.Deep.QuietTactic
import Derived.BigQuiet
namespace Go.Proofs.YtfhicijgpdpfpaaDoor
open Go.RowKit

/-- a world that has at most grown since w -/
structure Since (w : World) where
  u : World
  h : Below w.heap.size w u

theorem since_ne (w : World) : Nonempty (Since w) := ⟨⟨w, Below.refl _ _⟩⟩

theorem Since.cell {w : World} (x : Since w) (b o : Nat) (hb : b < w.heap.size) : x.u.cell? ⟨b, o, none⟩ = w.cell? ⟨b, o, none⟩ := x.h.cell (p := ⟨b, o, none⟩) hb

theorem wp_region_since {P : Program} {id : Nat} {Q : Exit → Act → World → Prop} {a : Act} {w : World} {l : List Oper} (hm : P.follows .mixedOrders = true) (hB : Region.lexB .any l.toArray = true)
    (h : wpQuiet P l.toArray (fun w' => ∃ x : Since w, w' = x.u) (fun a' => ∀ w', (∃ x : Since w, w' = x.u) → Q .normal a' w') l a) : (Code.region id l.toArray true).wp P Q a w :=
  wp_region_quiet (C := fun w' => ∃ x : Since w, w' = x.u) hm hB ⟨⟨{ w with drawn := w.drawn + 1 }, (Below.refl _ w).drew⟩, rfl⟩ (by simpa using h)

theorem Calls.since_of {P : Program} {f : FuncId} {args : Array Value} {w : World} {x : Since w} {v : Value}
    (h : Calls P f args x.u fun e w' => e = .returned v ∧ Below x.u.heap.size x.u w') : Calls P f args x.u fun e w'' => e = .returned v ∧ ∃ y : Since w, w'' = y.u :=
  h.mono fun _ w' ⟨he, hb⟩ => ⟨he, ⟨w', x.h.trans (hb.mono x.h.size)⟩, rfl⟩

theorem Calls.since_same {P : Program} {f : FuncId} {args : Array Value} {w : World} {x : Since w} {v : Value}
    (h : Calls P f args x.u fun e w' => e = .returned v ∧ w' = x.u) : Calls P f args x.u fun e w'' => e = .returned v ∧ ∃ y : Since w, w'' = y.u :=
  h.mono fun _ _ ⟨he, hb⟩ => ⟨he, x, hb⟩

theorem bcell {W w1 : World} (hb : Below W.heap.size W w1) : (∀ b o, b < W.heap.size → w1.cell? ⟨b, o, none⟩ = W.cell? ⟨b, o, none⟩) ∧ (∀ b o, b < W.heap.size → w1.frozen? ⟨b, o, none⟩ = W.frozen? ⟨b, o, none⟩) :=
  ⟨fun b o h => hb.cell (p := ⟨b, o, none⟩) h, fun b o h => hb.frozen (p := ⟨b, o, none⟩) h⟩

/-- three blocks one behind the other, read in a later world -/
theorem bcell3 {W w1 : World} (hb : Below W.heap.size W w1) (n : Nat) (h : n + 3 ≤ W.heap.size) :
    (∀ o, w1.cell? ⟨n, o, none⟩ = W.cell? ⟨n, o, none⟩) ∧ (∀ o, w1.cell? ⟨n + 1, o, none⟩ = W.cell? ⟨n + 1, o, none⟩) ∧ (∀ o, w1.cell? ⟨n + 1 + 1, o, none⟩ = W.cell? ⟨n + 1 + 1, o, none⟩) :=
  ⟨fun o => hb.cell (p := ⟨n, o, none⟩) (by show n < _; omega), fun o => hb.cell (p := ⟨n + 1, o, none⟩) (by show n + 1 < _; omega), fun o => hb.cell (p := ⟨n + 1 + 1, o, none⟩) (by show n + 1 + 1 < _; omega)⟩
theorem scell3 (W : World) (n : Nat) (h : n + 3 ≤ W.heap.size) :
    (∀ (x : Since W) o, x.u.cell? ⟨n, o, none⟩ = W.cell? ⟨n, o, none⟩) ∧ (∀ (x : Since W) o, x.u.cell? ⟨n + 1, o, none⟩ = W.cell? ⟨n + 1, o, none⟩) ∧ (∀ (x : Since W) o, x.u.cell? ⟨n + 1 + 1, o, none⟩ = W.cell? ⟨n + 1 + 1, o, none⟩) :=
  ⟨fun x => (bcell3 x.h n h).1, fun x => (bcell3 x.h n h).2.1, fun x => (bcell3 x.h n h).2.2⟩
end Go.Proofs.YtfhicijgpdpfpaaDoor
