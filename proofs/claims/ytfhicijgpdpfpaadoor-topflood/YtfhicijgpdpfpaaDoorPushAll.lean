/-
  Pushing, in one word for all cases.
-/
import Derived.Test.YtfhicijgpdpfpaaDoorPop
import Derived.Test.YtfhicijgpdpfpaaDoorFloodM
namespace Go.Proofs.YtfhicijgpdpfpaaDoor
open Go.RowKit

/-- does a push change the heap? -/
def pushB (H : Int → Option (Int × Int)) (a s d : Int) : Bool := match H a with | none => true | some c => decide (val s d < val c.1 c.2)
/-- what is there behind a push -/
def pushH (H : Int → Option (Int × Int)) (a s d : Int) : Int → Option (Int × Int) := if pushB H a s d then putH H a s d else H

theorem pushed (H : Int → Option (Int × Int)) (a s d : Int) : Pushed H a s d (pushH H a s d) := by
  unfold Pushed pushH pushB
  cases ha : H a with
  | none => left; exact ⟨rfl, fun h => (by cases h)⟩
  | some c =>
    obtain ⟨t, u⟩ := c
    by_cases hv : val s d < val t u
    · left
      refine ⟨by simp [hv], fun h => ?_⟩
      cases h; exact hv
    · right
      exact ⟨by simp [hv], t, u, rfl, by omega⟩

/-- a heap that has become this one -/
def HeapTo (w w' : World) (b mb : Nat) (v : Value) (n : Nat) (H : Int → Option (Int × Int)) : Prop :=
  ∃ v' n', HeapAt w' b mb v' n' H ∧ n' ≤ n + 1 ∧ ∀ g, v'.ownBlock = some g → v.ownBlock = some g ∨ w.heap.size ≤ g

theorem push_all {b mb n : Nat} {v : Value} {H : Int → Option (Int × Int)} (a s d : Int) (w : World) (h : HeapAt w b mb v n H) (hc : okC s d) (hwf : (Lit.int .i64 a).wf = true) (hn : n < 1000000) :
    Calls Tryd.prog 80 #[.pointer (some ⟨b, 0, none⟩), .int .i64 a, .agg #[.int .i64 s, .int .i64 d]] w fun e w' => e = .returned (.bool (pushB H a s d)) ∧ HeapTo w w' b mb v n (pushH H a s d) ∧ Keep (hb3 b mb v) w w' := by
  cases ha : H a with
  | none =>
    have e1 : pushB H a s d = true := by unfold pushB; rw [ha]
    have e2 : pushH H a s d = putH H a s d := by unfold pushH; rw [e1]; rfl
    rw [e1, e2]
    exact (push_new a s d w h ha hc hwf hn).mono fun e w' ⟨he, ⟨v', h', hl⟩, K⟩ => ⟨he, ⟨v', n + 1, h', Nat.le_refl _, fun g hg => by
      rcases hl with hl | ⟨g', hl, hg'⟩
      · exact Or.inl (by rw [← hl]; exact hg)
      · rw [hl] at hg; cases hg; exact Or.inr hg'⟩, K⟩
  | some c =>
    obtain ⟨t, u⟩ := c
    by_cases hv : val s d < val t u
    · have e1 : pushB H a s d = true := by unfold pushB; rw [ha]; exact decide_eq_true hv
      have e2 : pushH H a s d = putH H a s d := by unfold pushH; rw [e1]; rfl
      rw [e1, e2]
      exact (push_less a s d t u w h ha hc hv).mono fun e w' ⟨he, h', K⟩ => ⟨he, ⟨v, n, h', Nat.le_succ _, fun g hg => Or.inl hg⟩, K⟩
    · have e1 : pushB H a s d = false := by unfold pushB; rw [ha]; exact decide_eq_false hv
      have e2 : pushH H a s d = H := by unfold pushH; rw [e1]; rfl
      rw [e1, e2]
      exact (push_no a s d t u w h ha hc hv).mono fun e w' ⟨he, hb⟩ => ⟨he, ⟨v, n, h.below hb, Nat.le_succ _, fun g hg => Or.inl hg⟩, Keep.of_below hb⟩

theorem hb3_lt {w : World} {b mb n : Nat} {v : Value} {H : Int → Option (Int × Int)} (h : HeapAt w b mb v n H) {k : Nat} (hk : hb3 b mb v k) : k < w.heap.size := by
  obtain ⟨h1, h2, h3⟩ := h.blocks
  rcases hk with rfl | rfl | hk
  · exact h1
  · exact h2
  · exact h3 k hk
end Go.Proofs.YtfhicijgpdpfpaaDoor
