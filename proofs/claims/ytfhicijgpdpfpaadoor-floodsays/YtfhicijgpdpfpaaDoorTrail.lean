/-
  A way back to the first cell, and what it costs when it is walked.
-/
import Derived.Test.YtfhicijgpdpfpaaDoorWalkR
namespace Go.Proofs.YtfhicijgpdpfpaaDoor

theorem stepD_edge {W H a b : Int} {bl : Nat → Bool} {k : Nat} (w1 : 1 ≤ W) (e : Edge W H bl a k b) : stepD W H bl a b = some k := by
  obtain ⟨h1, h2, h3, h4⟩ := e
  cases h : stepD W H bl a b with
  | none =>
    unfold stepD at h
    rw [List.find?_range_eq_none] at h
    have := h k h1
    rw [h3, h4] at this
    simp at this
  | some j =>
    unfold stepD at h
    rw [List.find?_range_eq_some] at h
    obtain ⟨g1, g2, _⟩ := h
    simp only [Bool.and_eq_true, beq_iff_eq] at g1
    have := one_dir w1 (by simpa using g2) h1 g1.1 h3 (by rw [g1.2, h4])
    rw [this]

/-- each is one step from the one ahead of it, and costs so much more -/
def Trail (W H : Int) (bl : Nat → Bool) (F : Int → Option (Int × Int)) (xs : Nat → Int) (n : Nat) : Prop :=
  ∀ j, j + 1 < n → ∃ k s d, Edge W H bl (xs j) k (xs (j + 1)) ∧ F (xs j) = some (s, d) ∧ F (xs (j + 1)) = some (s + stS k, d + stD k)

theorem ff_zero {W H : Int} {bl : Nat → Bool} {c : Int} (hi : inB W H c = true) (hb : bl c.toNat = false) : ffv W H bl c = 0 := by
  unfold ffv; rw [hi, hb]; rfl

/-- a trail from the first cell costs, walked, what its last one costs -/
theorem trail_walk {W H o : Int} {bl : Nat → Bool} {F : Int → Option (Int × Int)} {xs : Nat → Int} {n : Nat} (w1 : 1 ≤ W) (B : Best (Edge W H bl) o F) (ho : inB W H o = true) (hbo : bl o.toNat = false) (h0 : xs 0 = o) (ht : Trail W H bl F xs n) :
    ∀ i, i < n → ∃ c, F (xs i) = some c ∧ wkS W H bl xs (i + 1) = .ok c := by
  intro i
  induction i with
  | zero =>
    intro _
    refine ⟨(0, 0), by rw [h0]; exact B.home, ?_⟩
    rw [wkS_next (c := (0, 0)) rfl]
    unfold wk1
    rw [h0, ff_zero ho hbo, if_pos rfl, if_pos rfl]
  | succ i ih =>
    intro hi
    obtain ⟨c, hc, hw⟩ := ih (by omega)
    obtain ⟨k, s, d, he, hF, hG⟩ := ht i hi
    rw [hc] at hF
    cases hF
    refine ⟨_, hG, ?_⟩
    have hwk := B.sound hG
    rw [wkS_next hw]
    unfold wk1
    rw [ff_zero (wk_in w1 ho hwk) (wk_free hbo hwk), if_pos rfl, if_neg (by omega), Nat.add_sub_cancel, stepD_edge w1 he]

/-- .. and has no fault -/
theorem trail_cost {W H o s d : Int} {bl : Nat → Bool} {F : Int → Option (Int × Int)} {xs : Nat → Int} {n : Nat} (w1 : 1 ≤ W) (B : Best (Edge W H bl) o F) (ho : inB W H o = true) (hbo : bl o.toNat = false) (h0 : xs 0 = o) (ht : Trail W H bl F xs n) (hn : 0 < n) (hl : F (xs (n - 1)) = some (s, d)) :
    wkV W H bl xs n = ((s, d), 0) := by
  obtain ⟨c, hc, hw⟩ := trail_walk w1 B ho hbo h0 ht (n - 1) (by omega)
  rw [hl] at hc
  cases hc
  rw [Nat.sub_add_cancel (by omega)] at hw
  exact wkV_ok hw hn
end Go.Proofs.YtfhicijgpdpfpaaDoor
