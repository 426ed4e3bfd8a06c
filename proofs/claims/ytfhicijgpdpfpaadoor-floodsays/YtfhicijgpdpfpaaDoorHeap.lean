/-
  What a heap's own functions do.
-/
import Derived.Test.YtfhicijgpdpfpaaDoorSink
import Derived.Maps.AppendAt
namespace Go.Proofs.YtfhicijgpdpfpaaDoor
open Go.RowKit

/-- a heap in block b: these numbers with their costs, n of them -/
structure HeapAt (w : World) (b mb : Nat) (v : Value) (n : Nat) (H : Int → Option (Int × Int)) : Prop where
  ex : ∃ it f, HS w b mb v n it f H ∧ Ord it n

theorem HeapAt.below {w w' : World} {b mb n : Nat} {v : Value} {H : Int → Option (Int × Int)} (h : HeapAt w b mb v n H) (hb : Below w.heap.size w w') : HeapAt w' b mb v n H := by
  obtain ⟨it, f, S, O⟩ := h.ex
  exact ⟨it, f, S.below hb, O⟩
theorem HeapAt.keep {F : Nat → Prop} {w w' : World} {b mb n : Nat} {v : Value} {H : Int → Option (Int × Int)} (h : HeapAt w b mb v n H) (hk : Keep F w w') (h1 : ¬ F b) (h2 : ¬ F mb) (h3 : ∀ g, v.ownBlock = some g → ¬ F g) : HeapAt w' b mb v n H := by
  obtain ⟨it, f, S, O⟩ := h.ex
  exact ⟨it, f, ⟨S.rep.keep hk h1 h2 h3, S.atf, S.wf, S.ok, S.holds, S.bd⟩, O⟩
theorem HeapAt.blocks {w : World} {b mb n : Nat} {v : Value} {H : Int → Option (Int × Int)} (h : HeapAt w b mb v n H) : b < w.heap.size ∧ mb < w.heap.size ∧ ∀ g, v.ownBlock = some g → g < w.heap.size := by
  obtain ⟨it, f, S, O⟩ := h.ex
  have := S.rep.blocks
  exact ⟨this.1, this.2.1, fun g hg => (this.2.2.2 g hg).1⟩
theorem HeapAt.bd {w : World} {b mb n : Nat} {v : Value} {H : Int → Option (Int × Int)} (h : HeapAt w b mb v n H) : n ≤ 1000000 := by
  obtain ⟨it, f, S, O⟩ := h.ex
  exact S.bd
theorem HeapAt.empty {w : World} {b mb : Nat} {v : Value} {H : Int → Option (Int × Int)} (h : HeapAt w b mb v 0 H) (a : Int) : H a = none := by
  obtain ⟨it, f, S, O⟩ := h.ex
  cases e : H a with
  | none => rfl
  | some c =>
    obtain ⟨s, d⟩ := c
    obtain ⟨i, hi, _⟩ := (S.holds a s d).mp e
    omega
theorem HeapAt.fits {w : World} {b mb n : Nat} {v : Value} {H : Int → Option (Int × Int)} (h : HeapAt w b mb v n H) {a s d : Int} (ha : H a = some (s, d)) : okC s d ∧ (Lit.int .i64 a).wf = true ∧ 0 < n := by
  obtain ⟨it, f, S, O⟩ := h.ex
  obtain ⟨i, hi, e⟩ := (S.holds a s d).mp ha
  have h1 := S.ok i hi
  have h2 := S.wf i hi
  rw [e] at h1 h2
  exact ⟨h1, h2, by omega⟩

theorem Row.nil (w : World) (it : Nat → Item) : Row w (.slice none 0 0) 0 it := ⟨[], World.ownsRow_nil w 0 135 3, fun i hi => by omega⟩

set_option maxHeartbeats 400000 in
theorem new_any (w : World) : Calls Tryd.prog 79 #[] w fun e w' => e = .returned (.pointer (some ⟨w.heap.size + 1, 0, none⟩)) ∧ HeapAt w' (w.heap.size + 1) w.heap.size (.slice none 0 0) 0 (fun _ => none) ∧ Below w.heap.size w w' ∧ w'.heap.size = w.heap.size + 2 := by
  have hmm := @run_makeMap Tryd.prog
  go_enter Tryd.func79, Tryd.ntmps79
  go_wp2
  go_ret
  have HB : Below w.heap.size w ((w.alloc (.map #[] 0)).alloc (.cells #[.slice none 0 0, .map (some w.heap.size)] 132)) := ((Below.refl _ _).alloc (Nat.le_refl _) _).alloc (by simp) _
  refine ⟨rfl, ⟨fun _ => ⟨0, 0, 0⟩, fun _ => none, ⟨⟨?_, ?_, ?_, Row.nil _ _, ?_, by simp [Value.ownBlock]⟩, ⟨fun i hi => by omega, fun a v h => (by cases h)⟩, fun i hi => by omega, fun i hi => by omega, fun a s d => ⟨fun h => (by cases h), fun ⟨i, hi, _⟩ => (by omega)⟩, by omega⟩, fun j _ hj => by omega⟩, HB, by simp⟩
  · exact World.cell?_alloc_at #[.slice none 0 0, .map (some w.heap.size)] 132 (w.heap.size + 1) 0 (by simp)
  · exact World.cell?_alloc_at #[.slice none 0 0, .map (some w.heap.size)] 132 (w.heap.size + 1) 1 (by simp)
  · rw [frozen?_alloc_cells]
    simp [World.frozen?]
  · exact (MapF.made w Tryd.prog 3).keep (F := fun _ => False) ((Keep.refl _ _).alloc _) id

set_option maxHeartbeats 400000 in
theorem len_any {b mb n : Nat} {v : Value} {H : Int → Option (Int × Int)} (w : World) (h : HeapAt w b mb v n H) :
    Calls Tryd.prog 81 #[.pointer (some ⟨b, 0, none⟩)] w fun e w' => e = .returned (.int .i64 n) ∧ w' = w := by
  obtain ⟨it, f, S, O⟩ := h.ex
  have c0 := S.rep.c0
  have hv : ∃ A cap, v = .slice A n cap := by
    obtain ⟨xs, ho, _⟩ := S.rep.row
    rcases ho.2 with ⟨rfl, rfl⟩ | ⟨g, cap, cur, rfl, _⟩
    · exact ⟨_, _, rfl⟩
    · exact ⟨_, _, rfl⟩
  obtain ⟨A, cap, rfl⟩ := hv
  clear S O
  go_enter Tryd.func81, Tryd.ntmps81
  go_wp2
  go_ret
  exact ⟨rfl, rfl⟩

end Go.Proofs.YtfhicijgpdpfpaaDoor
