/-
  The walk of 'HeapSays': the heap and the reference's answer alike, act by act.
-/
import Derived.Test.YtkaolmblcmbjaabPop
import Derived.Test.YtkaolmblcmbjaabRPush3
namespace Go.Proofs.Ytkaolmblcmbjaab
open Go.RowKit

/-- a push that came in -/
structure PushV where
  id : Int
  s : Int
  d : Int
  pop : Bool

/-- a row of pushes in memory that was there -/
def OldPush (w : World) (A : Option Addr) (n : Nat) (xs : Nat → PushV) : Prop := ∀ i, i < n → ∃ b o, A = some ⟨b, o, none⟩ ∧ b < w.heap.size ∧ w.cell? ⟨b, o + i * 4, none⟩ = some (.int .i64 (xs i).id) ∧ w.cell? ⟨b, o + i * 4 + 1, none⟩ = some (.int .i64 (xs i).s) ∧ w.cell? ⟨b, o + i * 4 + 2, none⟩ = some (.int .i64 (xs i).d) ∧ w.cell? ⟨b, o + i * 4 + 3, none⟩ = some (.bool (xs i).pop) ∧ (Lit.int .i64 (xs i).id).wf = true

/-- the heap and the reference's, side by side, in new memory -/
structure Pair (N : Nat) (w : World) (b mb : Nat) (v : Value) (n : Nat) (H : Int → Option (Int × Int)) (q : Nat) (A : Option Addr) (cap : Nat) (L : List Item) : Prop where
  hp : HeapAt w b mb v n H
  rh : RH w q A cap L
  ord : InOrder L H
  nb : N ≤ b
  nm : N ≤ mb
  nq : N ≤ q
  nv : ∀ g, v.ownBlock = some g → N ≤ g
  apart : ∀ k, hb3 b mb v k → k ≠ q
  away : ∀ g o, A = some ⟨g, o, none⟩ → g < w.heap.size ∧ ¬ hb3 b mb v g

theorem HeapAt.apart {w : World} {b mb n : Nat} {v : Value} {H : Int → Option (Int × Int)} (h : HeapAt w b mb v n H) {L : List Item} (hL : InOrder L H) : L.length = n := by
  obtain ⟨it, f, S, O⟩ := h.ex
  exact hL.count S.holds S.atf.apart

theorem Pair.below {N : Nat} {w w' : World} {b mb n q cap : Nat} {v : Value} {H : Int → Option (Int × Int)} {A : Option Addr} {L : List Item} (P : Pair N w b mb v n H q A cap L) (hb : Below w.heap.size w w') : Pair N w' b mb v n H q A cap L :=
  ⟨P.hp.below hb, P.rh.below hb, P.ord, P.nb, P.nm, P.nq, P.nv, P.apart, fun g o e => ⟨Nat.lt_of_lt_of_le (P.away g o e).1 hb.size, (P.away g o e).2⟩⟩

/-- a heap's change does not touch the reference's -/
theorem Pair.rh_keep {N : Nat} {w w' : World} {b mb n q cap : Nat} {v : Value} {H : Int → Option (Int × Int)} {A : Option Addr} {L : List Item} (P : Pair N w b mb v n H q A cap L) (K : Keep (hb3 b mb v) w w') : RH w' q A cap L :=
  P.rh.keep K (fun h => P.apart q h rfl) (fun g o e _ => (P.away g o e).2)
theorem hb3_lt {w : World} {b mb n : Nat} {v : Value} {H : Int → Option (Int × Int)} (h : HeapAt w b mb v n H) {k : Nat} (hk : hb3 b mb v k) : k < w.heap.size := by
  obtain ⟨h1, h2, h3⟩ := h.blocks
  rcases hk with rfl | rfl | hk
  · exact h1
  · exact h2
  · exact h3 k hk

set_option maxHeartbeats 1000000 in
theorem heaps_any (w : World) : Calls Try.prog 5 #[] w fun e w' => e = .returned (.bool true) ∧ Below w.heap.size w w' := by
  have k1 : okC 3 0 := by unfold okC; omega
  have k2 : okC 0 2 := by unfold okC; omega
  have wf5 : (Lit.int .i64 5).wf = true := by decide
  have wf7 : (Lit.int .i64 7).wf = true := by decide
  go_enter Try.func5, Try.ntmps5
  go_wp2_with fail
  refine (new_any _).mono ?_
  rintro e w1 ⟨rfl, h1, hb1, hs1⟩
  go_wp2_with fail
  refine (push_new 5 3 0 _ h1 rfl k1 wf5 (by omega)).mono ?_
  rintro e w2 ⟨rfl, ⟨v2, h2, l2⟩, K2⟩
  go_wp2_with fail
  refine (push_new 7 0 2 _ h2 (by simp [putH]) k2 wf7 (by omega)).mono ?_
  rintro e w3 ⟨rfl, ⟨v3, h3, l3⟩, K3⟩
  go_wp2_with fail
  refine (pop_one _ h3).mono ?_
  rintro e w4 ⟨a, s, d, rfl, ha, hm, ⟨v4, h4, l4⟩, K4⟩
  have hall : a = 7 ∧ s = 0 ∧ d = 2 := by
    have m7 := hm 7 0 2 (by simp [putH])
    unfold putH at ha
    split at ha
    · rename_i e; simp at ha; omega
    · split at ha
      · rename_i e; simp at ha
        exfalso
        apply m7
        obtain ⟨rfl, rfl⟩ := ha
        subst e
        unfold bef Item.v val
        simp
      · cases ha
  obtain ⟨rfl, rfl, rfl⟩ := hall
  have HB : Below w.heap.size w w4 := by
    have f2 : ∀ k, hb3 (w.heap.size + 1) w.heap.size (.slice none 0 0) k → w.heap.size ≤ k := by
      rintro k (rfl | rfl | h)
      · omega
      · omega
      · cases h
    have b2 := hb1.trans (K2.to_below (B := w.heap.size) hb1.size f2)
    have f3 : ∀ k, hb3 (w.heap.size + 1) w.heap.size v2 k → w.heap.size ≤ k := by
      rintro k (rfl | rfl | h)
      · omega
      · omega
      · rcases l2 with l2 | ⟨g, l2, hg⟩
        · rw [l2] at h; cases h
        · rw [l2] at h; cases h; have := hb1.size; omega
    have b3 := b2.trans (K3.to_below (B := w.heap.size) b2.size f3)
    have f4 : ∀ k, hb3 (w.heap.size + 1) w.heap.size v3 k → w.heap.size ≤ k := by
      rintro k (rfl | rfl | h)
      · omega
      · omega
      · rcases l3 with l3 | ⟨g, l3, hg⟩
        · exact f3 k (Or.inr (Or.inr (by rw [← l3]; exact h)))
        · rw [l3] at h; cases h; have := b2.size; omega
    exact b3.trans (K4.to_below (B := w.heap.size) b3.size f4)
  go_wp2_with (go_at_call 13; refine (len_any _ (h4.below ((Below.refl _ _).alloc (Nat.le_refl _) _))).mono ?_; rintro e w5 ⟨rfl, rfl⟩)
  go_ret
  exact ⟨rfl, HB.alloc HB.size _⟩
end Go.Proofs.Ytkaolmblcmbjaab
