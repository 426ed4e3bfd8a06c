/-
  Texts laid together: Lv9, LaidT.
-/
import Derived.Test.YtmnpplkjhnoglaaGreatDoorP45
/-
  Closed facts of nine cells, the middle one blocked; what 'TopLevels' asks of levels.
-/
namespace Go.Proofs.YtmnpplkjhnoglaaGreatDoor
open Go.RowKit

/-- the middle of nine cells is blocked -/
def mid9 : Nat → Bool := upd (fun _ => false) 4 true
theorem corn9 : crs 3 3 mid9 (3 * 3 : Int).toNat = [0, 2, 6, 8] := by decide
theorem moreF_few (p : LE → LE → Bool) (n : Nat) : ∀ l : List LE, l.length ≤ 3 → (moreF p n l).length ≤ l.length
  | [], _ => Nat.le_refl _
  | [a], _ => by simp [moreF]
  | [a, b], _ => by
    have := List.length_filter_le (p a) [b]
    simp only [moreF, List.length_append, List.length_map, List.length_cons, List.length_nil, List.filter_nil] at this ⊢
    omega
  | [a, b, c], _ => by
    have h1 := List.length_filter_le (p a) [b, c]
    have h2 := List.length_filter_le (p b) [c]
    simp only [moreF, List.length_append, List.length_map, List.length_cons, List.length_nil, List.filter_nil] at h1 h2 ⊢
    omega
  | _ :: _ :: _ :: _ :: _, h => by simp at h
theorem few9 {es : Nat → List LE} (G : GEs 3 3 mid9 es) : (es 0).length ≤ 3 := by
  have hm : ∀ e ∈ es 0, e.to ∈ [2, 6, 8] := fun e he => by
    obtain ⟨_, k2, _, k4, _⟩ := G.mem he
    have h4 : 0 ≤ (e.to : Int) ∧ (e.to : Int) < 3 * 3 := of_decide_eq_true (cornC_in (by decide) (cornB_iff.1 k2))
    have h5 : e.to ∈ crs 3 3 mid9 (3 * 3 : Int).toNat := crs_mem.2 ⟨by omega, k2⟩
    rw [corn9] at h5
    simp only [List.mem_cons, List.not_mem_nil, or_false] at h5 ⊢
    rcases h5 with h | h | h | h
    · exact absurd h k4
    · exact Or.inl h
    · exact Or.inr (Or.inl h)
    · exact Or.inr (Or.inr h)
  have hR := G.esy.ord 0
  have hr : ((es 0).map LE.to).Pairwise (· < ·) := by
    rw [List.pairwise_map]
    exact hR
  have he : (es 0).map LE.to = [2, 6, 8].filter (fun x => decide (x ∈ (es 0).map LE.to)) :=
    rise_eq hr (List.Pairwise.filter _ (by decide)) (fun n => by
      rw [List.mem_filter, decide_eq_true_iff]
      constructor
      · intro h
        obtain ⟨e, he, rfl⟩ := List.mem_map.1 h
        exact ⟨hm e he, h⟩
      · exact fun h => h.2)
  have h1 := congrArg List.length he
  have h2 := List.length_filter_le (fun x => decide (x ∈ (es 0).map LE.to)) [2, 6, 8]
  rw [List.length_map] at h1
  rw [h1]
  exact h2
theorem top9 {es : Nat → List LE} (G : GEs 3 3 mid9 es) {k : Nat} {st : LSt} (h : Rds 2 [0, 2, 6, 8] ⟨fun _ => 0, es⟩ k st) (ho : Over 2 [0, 2, 6, 8] k st) : k = 1 := by
  cases k with
  | zero =>
    exfalso
    have e : st = ⟨fun _ => 0, es⟩ := h
    subst e
    rcases ho with ho | ⟨s3, n3, st1, nr1, g1, g2, ht, _, hg⟩
    · omega
    · have hg1 : g1 = false := by
        cases g1 with
        | false => rfl
        | true => exact absurd hg (by simp)
      subst hg1
      rcases ht with ⟨h1, _⟩ | ⟨_, p, _, h1 | h1⟩
      · rcases h1 with h1 | h1
        · exact absurd h1 (Nat.lt_irrefl _)
        · cases h1
      · have hl : (feF ⟨fun _ => 0, es⟩ 0).length ≤ 3 := Nat.le_trans (List.length_filter_le _ _) (few9 G)
        have := moreF_few p 0 _ hl
        omega
      · cases h1.2.2.2
  | succ k =>
    obtain ⟨_, _, _, h2, _⟩ := h
    omega
/-- what is asked of levels, as numbers -/
structure Asked (L : List Nat) (es : Nat → List LE) (T : Nat) (st : LSt) : Prop where
  le : ∀ n, 1 ≤ st.lev n ∧ st.lev n ≤ T
  to : ∀ {a e}, e ∈ st.es a → a ∈ L ∧ e.to ∈ L
  apart : ∀ {a e}, e ∈ st.es a → st.lev e.to = st.lev a → ¬ st.lev a < T
  mid : ∀ {a e}, e ∈ st.es a → 0 ≤ e.mid → e.mid.toNat ∈ L ∧ st.lev e.mid.toNat < st.lev a ∧ st.lev e.mid.toNat < st.lev e.to
  way : ∀ {a e}, e ∈ st.es a → ∃ way, Unp st.es 6 a e.to way ∧ way[0]? = some a ∧ way[way.length - 1]? = some e.to ∧ 2 ≤ way.length ∧ way.length ≤ 65 ∧ Prc es way e.s e.d
  ord : ∀ a, Rsg (st.es a)
  len : (∀ n ∈ L, n < 256) → ∀ a, (st.es a).length ≤ 256
theorem asked {W H : Int} {bl : Nat → Bool} {es : Nat → List LE} (G : GEs W H bl es) (w1 : 1 ≤ W) (w2 : W ≤ 16) (h1 : 1 ≤ H) (h2 : H ≤ 16) {most k : Nat} {st : LSt} (m6 : most ≤ 6) (m1 : 1 ≤ most) (h : Rds most (crs W H bl (W * H).toNat) ⟨fun _ => 0, es⟩ k st) : k + 1 ≤ most ∧ Asked (crs W H bl (W * H).toNat) es (k + 1) ⟨endL (k + 1) st, st.es⟩ := by
  have B0 := G.btw w1 w2 h1 h2
  have B := Btw.rds (show (0 : Int) ≤ 16 by omega) B0 h
  have hk : k + 1 ≤ most := by
    cases k with
    | zero => omega
    | succ k =>
      obtain ⟨_, _, _, h2, _⟩ := h
      omega
  refine ⟨hk, B.lrd.end_le, B.cor.ends, B.lrd.end_apart, fun {a e} he hm => ?_, fun {a e} he => ?_, B.lrd.esy.ord, fun hb a => ?_⟩
  · obtain ⟨q1, q2⟩ := B.lrd.end_mid he hm
    refine ⟨B.cor.lev ?_, q1, q2⟩
    have := (B.lrd.end_le a).2
    unfold endL at q1 this
    split at q1
    · omega
    · omega
  · obtain ⟨way, l, u1, u2, u3, u4, u5⟩ := unpack B.lrd (fun he hm => Rds.own B0.lrd h he hm) 6 a e he (by have := (B.lrd.end_le a).2; omega)
    have u6 := u1.two
    refine ⟨way, u1, by rw [u2]; rfl, ?_, u6.1, by have : (2:Nat) ^ 6 = 64 := rfl; omega, u5⟩
    rw [← List.getLast?_eq_getElem?]
    exact u4
  · exact LayOk.len (L := crs W H bl (W * H).toNat) (fun a => ⟨B.lrd.esy.ord a, fun e he => (B.cor.ends he).2⟩) hb a
end Go.Proofs.YtmnpplkjhnoglaaGreatDoor
/-
  What is laid from a plot, whatever it is.
-/
namespace Go.Proofs.YtmnpplkjhnoglaaGreatDoor
open Go.RowKit

theorem laid_any (W H : Int) (A : Option Addr) (n cap : Nat) (xs : Nat → Int) (w : World) (hm : n ≤ maxLen) (hx : OldRow w A n xs) :
    Calls Tryz.prog 8 #[.agg #[.int .i64 W, .int .i64 H, .slice A n cap]] w fun e w' => Below w.heap.size w w' ∧ (e = .returned (.tuple #[.pointer none, .pointer none, .bool false]) ∨
      (e = .returned (.tuple #[.pointer (some ⟨w.heap.size + 1, 0, none⟩), .pointer (some ⟨w.heap.size + 1 + 1, 0, none⟩), .bool true]) ∧ w'.heap.size = w.heap.size + 3 ∧ ∃ V bl, V ≤ 300 ∧ Both w' (w.heap.size + 1) (w.heap.size + 1 + 1) W H V bl)) := by
  by_cases hn : 300 < (n : Int)
  · exact (laid_many W H A n cap w hn hm).mono fun e w' ⟨h1, h2⟩ => ⟨h2, Or.inl h1⟩
  · cases hW : sideB W with
    | false => exact (laid_bad W H A n cap w hn (.inl hW)).mono fun e w' ⟨h1, h2⟩ => ⟨h2, Or.inl h1⟩
    | true =>
      cases hH : sideB H with
      | false => exact (laid_bad W H A n cap w hn (.inr ⟨hW, hH⟩)).mono fun e w' ⟨h1, h2⟩ => ⟨h2, Or.inl h1⟩
      | true => exact (laid_ok W H A n cap xs w hn hW hH hx).mono fun e w' ⟨h1, h2, h3, h4⟩ => ⟨h2, Or.inr ⟨h1, h3, h4⟩⟩
theorem Both.below' {w w' : World} {g m : Nat} {W H V : Int} {bl : Nat → Bool} (h : Both w g m W H V bl) (hb : Below w.heap.size w w') : Both w' g m W H V bl := by
  have hg : g < w.heap.size := World.block_lt_of_cell? w _ h.ga.c0
  have hm : m < w.heap.size := World.block_lt_of_cell? w _ h.ra.c0
  exact ⟨h.ga.below hb hg, fun o => (hb.frozen (p := ⟨g, o, none⟩) hg).trans (h.gf o), h.ra.below hb hm, fun o => (hb.frozen (p := ⟨m, o, none⟩) hm).trans (h.rf o), h.v1, h.ne⟩
end Go.Proofs.YtmnpplkjhnoglaaGreatDoor
