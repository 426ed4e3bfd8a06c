/-
  Texts laid together: LvPrc, Lv9, SdA.
-/
import Derived.Test.YtmnpplkjhnoglaaGreatDoorP32
import Derived.Deep.RegionHeld3
import Derived.BigQuiet
/-
  A way over edges of the graph, and what it costs: the statement's 'priced'.
-/
namespace Go.Proofs.YtmnpplkjhnoglaaGreatDoor
open Go.RowKit Go.Maps Go.Lib

theorem Rsg.at {l : List LE} (h : Rsg l) {i j : Nat} {e f : LE} (he : l[i]? = some e) (hf : l[j]? = some f) (ht : e.to = f.to) : i = j := by
  obtain ⟨h1, e1⟩ := List.getElem?_eq_some_iff.1 he
  obtain ⟨h2, e2⟩ := List.getElem?_eq_some_iff.1 hf
  have hp := List.pairwise_iff_getElem.1 h
  by_cases hij : i = j
  · exact hij
  · rcases Nat.lt_or_gt_of_ne hij with h3 | h3
    · have := hp i j h1 h2 h3; rw [e1, e2] at this; omega
    · have := hp j i h2 h1 h3; rw [e1, e2] at this; omega
end Go.Proofs.YtmnpplkjhnoglaaGreatDoor
/-
  Closed facts of nine cells, the middle one blocked; what 'TopLevels' asks of levels.
-/
namespace Go.Proofs.YtmnpplkjhnoglaaGreatDoor
open Go.RowKit

/-- the middle of nine cells is blocked -/
def mid9 : Nat → Bool := upd (fun _ => false) 4 true
theorem corn9 : crs 3 3 mid9 (3 * 3 : Int).toNat = [0, 2, 6, 8] := by decide
theorem moreF_few (p : LE → LE → Bool) (n : Nat) : ∀ l : List LE, l.length ≤ 3 → (moreF p n l).length ≤ l.length
  | [], _ => Nat.le_refl _
  | [a], _ => by simp [moreF]
  | [a, b], _ => by
    have := List.length_filter_le (p a) [b]
    simp only [moreF, List.length_append, List.length_map, List.length_cons, List.length_nil, List.filter_nil] at this ⊢
    omega
  | [a, b, c], _ => by
    have h1 := List.length_filter_le (p a) [b, c]
    have h2 := List.length_filter_le (p b) [c]
    simp only [moreF, List.length_append, List.length_map, List.length_cons, List.length_nil, List.filter_nil] at h1 h2 ⊢
    omega
  | _ :: _ :: _ :: _ :: _, h => by simp at h
theorem few9 {es : Nat → List LE} (G : GEs 3 3 mid9 es) : (es 0).length ≤ 3 := by
  have hm : ∀ e ∈ es 0, e.to ∈ [2, 6, 8] := fun e he => by
    obtain ⟨_, k2, _, k4, _⟩ := G.mem he
    have h4 : 0 ≤ (e.to : Int) ∧ (e.to : Int) < 3 * 3 := of_decide_eq_true (cornC_in (by decide) (cornB_iff.1 k2))
    have h5 : e.to ∈ crs 3 3 mid9 (3 * 3 : Int).toNat := crs_mem.2 ⟨by omega, k2⟩
    rw [corn9] at h5
    simp only [List.mem_cons, List.not_mem_nil, or_false] at h5 ⊢
    rcases h5 with h | h | h | h
    · exact absurd h k4
    · exact Or.inl h
    · exact Or.inr (Or.inl h)
    · exact Or.inr (Or.inr h)
  have hR := G.esy.ord 0
  have hr : ((es 0).map LE.to).Pairwise (· < ·) := by
    rw [List.pairwise_map]
    exact hR
  have he : (es 0).map LE.to = [2, 6, 8].filter (fun x => decide (x ∈ (es 0).map LE.to)) :=
    rise_eq hr (List.Pairwise.filter _ (by decide)) (fun n => by
      rw [List.mem_filter, decide_eq_true_iff]
      constructor
      · intro h
        obtain ⟨e, he, rfl⟩ := List.mem_map.1 h
        exact ⟨hm e he, h⟩
      · exact fun h => h.2)
  have h1 := congrArg List.length he
  have h2 := List.length_filter_le (fun x => decide (x ∈ (es 0).map LE.to)) [2, 6, 8]
  rw [List.length_map] at h1
  rw [h1]
  exact h2
/-- what is asked of levels, as numbers -/
structure Asked (L : List Nat) (es : Nat → List LE) (T : Nat) (st : LSt) : Prop where
  le : ∀ n, 1 ≤ st.lev n ∧ st.lev n ≤ T
  to : ∀ {a e}, e ∈ st.es a → a ∈ L ∧ e.to ∈ L
  apart : ∀ {a e}, e ∈ st.es a → st.lev e.to = st.lev a → ¬ st.lev a < T
  mid : ∀ {a e}, e ∈ st.es a → 0 ≤ e.mid → e.mid.toNat ∈ L ∧ st.lev e.mid.toNat < st.lev a ∧ st.lev e.mid.toNat < st.lev e.to
  way : ∀ {a e}, e ∈ st.es a → ∃ way, Unp st.es 6 a e.to way ∧ way[0]? = some a ∧ way[way.length - 1]? = some e.to ∧ 2 ≤ way.length ∧ way.length ≤ 65 ∧ Prc es way e.s e.d
  ord : ∀ a, Rsg (st.es a)
  len : (∀ n ∈ L, n < 256) → ∀ a, (st.es a).length ≤ 256
theorem asked {W H : Int} {bl : Nat → Bool} {es : Nat → List LE} (G : GEs W H bl es) (w1 : 1 ≤ W) (w2 : W ≤ 16) (h1 : 1 ≤ H) (h2 : H ≤ 16) {most k : Nat} {st : LSt} (m6 : most ≤ 6) (m1 : 1 ≤ most) (h : Rds most (crs W H bl (W * H).toNat) ⟨fun _ => 0, es⟩ k st) : k + 1 ≤ most ∧ Asked (crs W H bl (W * H).toNat) es (k + 1) ⟨endL (k + 1) st, st.es⟩ := by
  have B0 := G.btw w1 w2 h1 h2
  have B := Btw.rds (show (0 : Int) ≤ 16 by omega) B0 h
  have hk : k + 1 ≤ most := by
    cases k with
    | zero => omega
    | succ k =>
      obtain ⟨_, _, _, h2, _⟩ := h
      omega
  refine ⟨hk, B.lrd.end_le, B.cor.ends, B.lrd.end_apart, fun {a e} he hm => ?_, fun {a e} he => ?_, B.lrd.esy.ord, fun hb a => ?_⟩
  · obtain ⟨q1, q2⟩ := B.lrd.end_mid he hm
    refine ⟨B.cor.lev ?_, q1, q2⟩
    have := (B.lrd.end_le a).2
    unfold endL at q1 this
    split at q1
    · omega
    · omega
  · obtain ⟨way, l, u1, u2, u3, u4, u5⟩ := unpack B.lrd (fun he hm => Rds.own B0.lrd h he hm) 6 a e he (by have := (B.lrd.end_le a).2; omega)
    have u6 := u1.two
    refine ⟨way, u1, by rw [u2]; rfl, ?_, u6.1, by have : (2:Nat) ^ 6 = 64 := rfl; omega, u5⟩
    rw [← List.getLast?_eq_getElem?]
    exact u4
  · exact LayOk.len (L := crs W H bl (W * H).toNat) (fun a => ⟨B.lrd.esy.ord a, fun e he => (B.cor.ends he).2⟩) hb a
end Go.Proofs.YtmnpplkjhnoglaaGreatDoor
/-
  A side of a search as it lies in memory; what a corner costs is lowered: package search's 'lower'.
-/
namespace Go.Proofs.YtmnpplkjhnoglaaGreatDoor
open Go.RowKit

/-- the blocks of a side: itself, its costs, those ahead, its heap and that one's map -/
structure SBk where
  sb : Nat
  cb : Nat
  ab : Nat
  hb : Nat
  mb : Nat
section
variable {w w' : World} {N : Nat} {k : SBk} {lb r : Nat} {gv v v' : Value} {nh nh' na : Nat} {x : SS}
end
end Go.Proofs.YtmnpplkjhnoglaaGreatDoor
