/-
  The heap's functions and the reference's side by side: each in one word for all cases.
-/
import Derived.Test.YtkaolmblcmbjaabHeapSaysWalk
namespace Go.Proofs.Ytkaolmblcmbjaab
open Go.RowKit

/-- does a push change the heap? -/
def pushB (H : Int → Option (Int × Int)) (a s d : Int) : Bool := match H a with | none => true | some c => decide (val s d < val c.1 c.2)
/-- what is there behind a push -/
def pushH (H : Int → Option (Int × Int)) (a s d : Int) : Int → Option (Int × Int) := if pushB H a s d then putH H a s d else H

/-- a heap that has become this one -/
def HeapTo (w w' : World) (b mb : Nat) (v : Value) (n : Nat) (H : Int → Option (Int × Int)) : Prop :=
  ∃ v' n', HeapAt w' b mb v' n' H ∧ n' ≤ n + 1 ∧ ∀ g, v'.ownBlock = some g → v.ownBlock = some g ∨ w.heap.size ≤ g
/-- the reference's heap that has become this list -/
def RHTo (w w' : World) (q : Nat) (A : Option Addr) (H : Int → Option (Int × Int)) : Prop :=
  ∃ A' cap' L', RH w' q A' cap' L' ∧ InOrder L' H ∧ ∀ g o, A' = some ⟨g, o, none⟩ → (∃ o', A = some ⟨g, o', none⟩) ∨ (w.heap.size ≤ g ∧ g < w'.heap.size)

theorem push_all {b mb n : Nat} {v : Value} {H : Int → Option (Int × Int)} (a s d : Int) (w : World) (h : HeapAt w b mb v n H) (hc : okC s d) (hwf : (Lit.int .i64 a).wf = true) (hn : n < 1000000) :
    Calls Try.prog 10 #[.pointer (some ⟨b, 0, none⟩), .int .i64 a, .agg #[.int .i64 s, .int .i64 d]] w fun e w' => e = .returned (.bool (pushB H a s d)) ∧ HeapTo w w' b mb v n (pushH H a s d) ∧ Keep (hb3 b mb v) w w' := by
  cases ha : H a with
  | none =>
    have e1 : pushB H a s d = true := by unfold pushB; rw [ha]
    have e2 : pushH H a s d = putH H a s d := by unfold pushH; rw [e1]; rfl
    rw [e1, e2]
    exact (push_new a s d w h ha hc hwf hn).mono fun e w' ⟨he, ⟨v', h', hl⟩, K⟩ => ⟨he, ⟨v', n + 1, h', Nat.le_refl _, fun g hg => by
      rcases hl with hl | ⟨g', hl, hg'⟩
      · exact Or.inl (by rw [← hl]; exact hg)
      · rw [hl] at hg; cases hg; exact Or.inr hg'⟩, K⟩
  | some c =>
    obtain ⟨t, u⟩ := c
    by_cases hv : val s d < val t u
    · have e1 : pushB H a s d = true := by unfold pushB; rw [ha]; exact decide_eq_true hv
      have e2 : pushH H a s d = putH H a s d := by unfold pushH; rw [e1]; rfl
      rw [e1, e2]
      exact (push_less a s d t u w h ha hc hv).mono fun e w' ⟨he, h', K⟩ => ⟨he, ⟨v, n, h', Nat.le_succ _, fun g hg => Or.inl hg⟩, K⟩
    · have e1 : pushB H a s d = false := by unfold pushB; rw [ha]; exact decide_eq_false hv
      have e2 : pushH H a s d = H := by unfold pushH; rw [e1]; rfl
      rw [e1, e2]
      exact (push_no a s d t u w h ha hc hv).mono fun e w' ⟨he, hb⟩ => ⟨he, ⟨v, n, h.below hb, Nat.le_succ _, fun g hg => Or.inl hg⟩, Keep.of_below hb⟩

theorem RH.in_heap {w : World} {q cap : Nat} {A : Option Addr} {L : List Item} (h : RH w q A cap L) {x : Item} (hx : x ∈ L) {g o : Nat} (e : A = some ⟨g, o, none⟩) : g < w.heap.size := by
  obtain ⟨i, hi, ei⟩ := List.mem_iff_getElem.mp hx
  obtain ⟨g', o', e', hg', _⟩ := h.row i x (by rw [List.getElem?_eq_getElem hi, ei])
  rw [e] at e'
  cases e'
  exact hg'

theorem rpush_all {q cap : Nat} {A : Option Addr} {L : List Item} {H : Int → Option (Int × Int)} (a s d : Int) (w : World) (h : RH w q A cap L) (hL : InOrder L H) (hc : okC s d) (hbd : L.length ≤ 400000) :
    Calls Try.prog 11 #[.pointer (some ⟨q, 0, none⟩), .int .i64 a, .agg #[.int .i64 s, .int .i64 d]] w fun e w' => e = .returned (.bool (pushB H a s d)) ∧ RHTo w w' q A (pushH H a s d) ∧ Keep (fun k => k = q) w w' := by
  have yes : (∀ t u, H a = some (t, u) → val s d < val t u) → pushB H a s d = true → Calls Try.prog 11 #[.pointer (some ⟨q, 0, none⟩), .int .i64 a, .agg #[.int .i64 s, .int .i64 d]] w fun e w' => e = .returned (.bool (pushB H a s d)) ∧ RHTo w w' q A (pushH H a s d) ∧ Keep (fun k => k = q) w w' := by
    intro hn e1
    have e2 : pushH H a s d = putH H a s d := by unfold pushH; rw [e1]; rfl
    rw [e1, e2]
    exact (rpush_loop a s d w h hL hc hbd hn).mono fun e w' ⟨he, ⟨A', cap', R, hA⟩, K⟩ => ⟨he, ⟨A', cap', _, R, hL.push ⟨a, s, d⟩, fun g o e => Or.inr ⟨Nat.le_of_lt (hA g o e), R.in_heap (((hL.push ⟨a, s, d⟩).mem a s d).mp (if_pos rfl)) e⟩⟩, K⟩
  cases ha : H a with
  | none => exact yes (fun t u h => by rw [ha] at h; cases h) (by unfold pushB; rw [ha])
  | some c =>
    obtain ⟨t, u⟩ := c
    by_cases hv : val s d < val t u
    · exact yes (fun t u h => by rw [ha] at h; cases h; exact hv) (by unfold pushB; rw [ha]; exact decide_eq_true hv)
    · have e1 : pushB H a s d = false := by unfold pushB; rw [ha]; exact decide_eq_false hv
      have e2 : pushH H a s d = H := by unfold pushH; rw [e1]; rfl
      rw [e1, e2]
      exact (rpush_no a s d t u w h hL ha hc hv).mono fun e w' ⟨he, hb⟩ => ⟨he, ⟨A, cap, L, h.below hb, hL, fun g o e => Or.inl ⟨o, e⟩⟩, Keep.of_below hb⟩

/-- what a pop answers -/
def popV (L : List Item) : Item × Bool := match L with | [] => (⟨0, 0, 0⟩, false) | x :: _ => (x, true)
/-- what is there behind a pop -/
def popH (L : List Item) (H : Int → Option (Int × Int)) : Int → Option (Int × Int) := match L with | [] => H | x :: _ => delH H x.id

theorem InOrder.popped {L : List Item} {H : Int → Option (Int × Int)} (h : InOrder L H) : InOrder L.tail (popH L H) := by
  cases L with
  | nil => exact h
  | cons x L => exact h.tail

theorem pop_all {b mb n : Nat} {v : Value} {H : Int → Option (Int × Int)} {L : List Item} (w : World) (h : HeapAt w b mb v n H) (hL : InOrder L H) :
    Calls Try.prog 8 #[.pointer (some ⟨b, 0, none⟩)] w fun e w' => e = .returned (.tuple #[.int .i64 (popV L).1.id, .agg #[.int .i64 (popV L).1.s, .int .i64 (popV L).1.d], .bool (popV L).2]) ∧ HeapTo w w' b mb v n (popH L H) ∧ Keep (hb3 b mb v) w w' := by
  have hn := h.apart hL
  cases L with
  | nil =>
    have : n = 0 := by simpa using hn.symm
    subst this
    exact (pop_none w h).mono fun e w' ⟨he, hb⟩ => ⟨he, ⟨v, 0, h.below hb, Nat.le_succ _, fun g hg => Or.inl hg⟩, Keep.of_below hb⟩
  | cons x L =>
    have : n = L.length + 1 := by simpa using hn.symm
    subst this
    refine (pop_one w h).mono fun e w' ⟨a, s, d, he, ha, hm, ⟨v', h', hl⟩, K⟩ => ?_
    have ex : (⟨a, s, d⟩ : Item) = x := hL.head (y := ⟨a, s, d⟩) ha hm
    subst ex
    exact ⟨he, ⟨v', _, h', by omega, fun g hg => Or.inl (by rw [← hl]; exact hg)⟩, K⟩

theorem rpop_all {q cap : Nat} {A : Option Addr} {L : List Item} {H : Int → Option (Int × Int)} (w : World) (h : RH w q A cap L) (hL : InOrder L H) :
    Calls Try.prog 9 #[.pointer (some ⟨q, 0, none⟩)] w fun e w' => e = .returned (.tuple #[.agg #[.int .i64 (popV L).1.id, .int .i64 (popV L).1.s, .int .i64 (popV L).1.d], .bool (popV L).2]) ∧ RHTo w w' q A (popH L H) ∧ Keep (fun k => k = q) w w' := by
  cases L with
  | nil => exact (rpop_none w h).mono fun e w' ⟨he, hb⟩ => ⟨he, ⟨A, cap, [], h.below hb, hL, fun g o e => Or.inl ⟨o, e⟩⟩, Keep.of_below hb⟩
  | cons x L => exact (rpop_one w h).mono fun e w' ⟨he, ⟨A', cap', R, hA⟩, K⟩ => ⟨he, ⟨A', cap', L, R, hL.tail, fun g o e => Or.inl (hA g o e)⟩, K⟩

/-- what is answered of a number's cost -/
def costV (H : Int → Option (Int × Int)) (a : Int) : (Int × Int) × Bool := match H a with | none => ((0, 0), false) | some c => (c, true)
theorem cost_all {b mb n : Nat} {v : Value} {H : Int → Option (Int × Int)} (a : Int) (w : World) (h : HeapAt w b mb v n H) (hwf : (Lit.int .i64 a).wf = true) :
    Calls Try.prog 12 #[.pointer (some ⟨b, 0, none⟩), .int .i64 a] w fun e w' => e = .returned (.tuple #[.agg #[.int .i64 (costV H a).1.1, .int .i64 (costV H a).1.2], .bool (costV H a).2]) ∧ Below w.heap.size w w' := by
  cases ha : H a with
  | none => unfold costV; rw [ha]; exact cost_none a w h ha hwf
  | some c => unfold costV; rw [ha]; exact cost_some a c.1 c.2 w h ha

/-- both have gone a step -/
theorem Pair.next {N : Nat} {w w1 w2 : World} {b mb n q cap : Nat} {v : Value} {H H' : Int → Option (Int × Int)} {A : Option Addr} {L : List Item} (P : Pair N w b mb v n H q A cap L) (hN : N ≤ w.heap.size) (T1 : HeapTo w w1 b mb v n H') (K1 : Keep (hb3 b mb v) w w1) (T2 : RHTo w1 w2 q A H') (K2 : Keep (fun k => k = q) w1 w2) :
    ∃ v' n' A' cap' L', Pair N w2 b mb v' n' H' q A' cap' L' ∧ n' ≤ n + 1 := by
  obtain ⟨v', n', h1, hn, hv⟩ := T1
  obtain ⟨A', cap', L', h2, ho, hA⟩ := T2
  have hq := P.rh.lt
  have hnew : ∀ k, hb3 b mb v' k → hb3 b mb v k ∨ w.heap.size ≤ k := by
    rintro k (rfl | rfl | hk)
    · exact Or.inl (Or.inl rfl)
    · exact Or.inl (Or.inr (Or.inl rfl))
    · rcases hv k hk with h | h
      · exact Or.inl (Or.inr (Or.inr h))
      · exact Or.inr h
  have hnq : ∀ k, hb3 b mb v' k → k ≠ q := fun k hk => by
    rcases hnew k hk with h | h
    · exact P.apart k h
    · omega
  refine ⟨v', n', A', cap', L', ⟨h1.keep K2 (hnq b (Or.inl rfl)) (hnq mb (Or.inr (Or.inl rfl))) (fun g hg => hnq g (Or.inr (Or.inr hg))), h2, ho, P.nb, P.nm, P.nq, fun g hg => ?_, hnq, fun g o e => ?_⟩, hn⟩
  · rcases hv g hg with h | h
    · exact P.nv g h
    · omega
  · have hs1 := K1.size
    have hs2 := K2.size
    rcases hA g o e with ⟨o', h⟩ | ⟨h, h2⟩
    · obtain ⟨a1, a2⟩ := P.away g o' h
      refine ⟨by omega, fun hk => ?_⟩
      rcases hnew g hk with h | h
      · exact a2 h
      · omega
    · exact ⟨h2, fun hk => by have := hb3_lt h1 hk; omega⟩
end Go.Proofs.Ytkaolmblcmbjaab
