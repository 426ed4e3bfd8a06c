/-
  Texts laid together: FloodM, Aid.
-/
import Derived.Test.YtmnpplkjhnoglaaGreatDoorP2
import Derived.WalkKit
import Derived.WalkSpells
import Derived.WalkLawsBesides
import Derived.Deep.QuietTactic
import Derived.BigQuiet
/-
  Ways over edges, what the least one costs, and how a flood that takes the nearest one first comes to it; no Go in sight.
-/
namespace Go.Proofs.YtmnpplkjhnoglaaGreatDoor

/-- what a step in a direction costs: straight, diagonal -/
def stS (k : Nat) : Int := 1 - (k % 2 : Nat)
def stD (k : Nat) : Int := (k % 2 : Nat)
theorem st_bd (k : Nat) : (stS k = 1 ∧ stD k = 0) ∨ (stS k = 0 ∧ stD k = 1) := by
  unfold stS stD; omega
theorem val_add (s d t u : Int) : val (s + t) (d + u) = val s d + val t u := by unfold val; omega
theorem val_st (k : Nat) : 1 ≤ val (stS k) (stD k) ∧ val (stS k) (stD k) ≤ 54608393 := by
  have := st_bd k; unfold val; omega
theorem val_small {s d : Int} (h1 : 0 ≤ s) (h2 : 0 ≤ d) (h : val s d ≤ 13979748608) : s ≤ 400 ∧ d ≤ 256 := by
  unfold val at h; omega

variable {E : Int → Nat → Int → Prop} {o : Int}

/-- there is a way from o that costs so much -/
def Wk (E : Int → Nat → Int → Prop) (o a s d : Int) : Prop :=
  ∀ R : Int → Int → Int → Prop, R o 0 0 → (∀ (a s d : Int) (k : Nat) (b : Int), R a s d → E a k b → R b (s + stS k) (d + stD k)) → R a s d

theorem Wk.nil : Wk E o o 0 0 := fun _ h0 _ => h0
theorem Wk.step {a b s d : Int} {k : Nat} (h : Wk E o a s d) (e : E a k b) : Wk E o b (s + stS k) (d + stD k) := fun R h0 hs => hs _ _ _ _ _ (h R h0 hs) e
theorem Wk.ind {R : Int → Int → Int → Prop} {a s d : Int} (h : Wk E o a s d) (h0 : R o 0 0) (hs : ∀ (a s d : Int) (k : Nat) (b : Int), Wk E o a s d → R a s d → E a k b → R b (s + stS k) (d + stD k)) : R a s d :=
  (h (fun a s d => Wk E o a s d ∧ R a s d) ⟨Wk.nil, h0⟩ (fun a s d k b hr e => ⟨hr.1.step e, hs a s d k b hr.1 hr.2 e⟩)).2
theorem Wk.inv {a s d : Int} (h : Wk E o a s d) : (a = o ∧ s = 0 ∧ d = 0) ∨ ∃ a' s' d' k, Wk E o a' s' d' ∧ E a' k a ∧ s = s' + stS k ∧ d = d' + stD k :=
  h.ind (R := fun a s d => (a = o ∧ s = 0 ∧ d = 0) ∨ ∃ a' s' d' k, Wk E o a' s' d' ∧ E a' k a ∧ s = s' + stS k ∧ d = d' + stD k) (Or.inl ⟨rfl, rfl, rfl⟩) (fun a s d k _ hw _ e => Or.inr ⟨a, s, d, k, hw, e, rfl, rfl⟩)

theorem Wk.nonneg {a s d : Int} (h : Wk E o a s d) : 0 ≤ s ∧ 0 ≤ d :=
  h.ind (R := fun _ s d => 0 ≤ s ∧ 0 ≤ d) ⟨Int.le_refl _, Int.le_refl _⟩ (fun a s d k b _ ih _ => by have := st_bd k; omega)

theorem Wk.cons {p a s d : Int} {k : Nat} (e : E p k o) (h : Wk E o a s d) : Wk E p a (s + stS k) (d + stD k) :=
  h.ind (R := fun a s d => Wk E p a (s + stS k) (d + stD k)) (Wk.nil.step e) (fun a' s' d' k' b' _ ih e' => by
    have := ih.step e'
    have e1 : s' + stS k' + stS k = s' + stS k + stS k' := by omega
    have e2 : d' + stD k' + stD k = d' + stD k + stD k' := by omega
    rw [e1, e2]
    exact this)

theorem Wk.back (hE : ∀ a k b, E a k b → ∃ k', E b k' a ∧ stS k' = stS k ∧ stD k' = stD k) {a s d : Int} (h : Wk E o a s d) : Wk E a o s d :=
  h.ind (R := fun a s d => Wk E a o s d) Wk.nil (fun a' s' d' k' b' _ ih e' => by
    obtain ⟨k2, e2, h1, h2⟩ := hE _ _ _ e'
    have := ih.cons e2
    rw [h1, h2] at this
    exact this)

/-- what each costs from o that can be come to, at least -/
structure Best (E : Int → Nat → Int → Prop) (o : Int) (F : Int → Option (Int × Int)) : Prop where
  sound : ∀ {a s d}, F a = some (s, d) → Wk E o a s d
  least : ∀ {a s d}, Wk E o a s d → ∃ s' d', F a = some (s', d') ∧ val s' d' ≤ val s d
  small : ∀ {a s d}, F a = some (s, d) → 0 ≤ s ∧ 0 ≤ d ∧ val s d ≤ 13979748608

theorem Best.le {F G : Int → Option (Int × Int)} (hF : Best E o F) (hG : Best E o G) {a s d : Int} (h : F a = some (s, d)) : G a = some (s, d) := by
  obtain ⟨s', d', h1, h2⟩ := hG.least (hF.sound h)
  obtain ⟨s2, d2, h3, h4⟩ := hF.least (hG.sound h1)
  rw [h] at h3
  cases h3
  obtain ⟨a1, a2, a3⟩ := hF.small h
  obtain ⟨b1, b2, b3⟩ := hG.small h1
  have c1 := val_small a1 a2 a3
  have c2 := val_small b1 b2 b3
  obtain ⟨e1, e2⟩ := val_inj s' d' s d (by omega) (by omega) (by omega)
  rw [h1, e1, e2]

theorem Best.unique {F G : Int → Option (Int × Int)} (hF : Best E o F) (hG : Best E o G) : F = G := by
  funext a
  cases h : F a with
  | none =>
    cases k : G a with
    | none => rfl
    | some c => obtain ⟨s, d⟩ := c; rw [hG.le hF k] at h; cases h
  | some c => obtain ⟨s, d⟩ := c; exact (hF.le hG h).symm

theorem Best.home {F : Int → Option (Int × Int)} (h : Best E o F) : F o = some (0, 0) := by
  obtain ⟨s, d, h1, h2⟩ := h.least Wk.nil
  obtain ⟨a1, a2, _⟩ := h.small h1
  have : s = 0 ∧ d = 0 := by unfold val at h2; omega
  rw [h1, this.1, this.2]

theorem Best.edge {F : Int → Option (Int × Int)} (h : Best E o F) {a b s d : Int} {k : Nat} (ha : F a = some (s, d)) (e : E a k b) : ∃ s' d', F b = some (s', d') ∧ val s' d' ≤ val s d + val (stS k) (stD k) := by
  obtain ⟨s', d', h1, h2⟩ := h.least (Wk.step (h.sound ha) e)
  rw [val_add] at h2
  exact ⟨s', d', h1, h2⟩

theorem Best.prev {F : Int → Option (Int × Int)} (h : Best E o F) {b s d : Int} (hb : F b = some (s, d)) (hne : b ≠ o) : ∃ a k s' d', E a k b ∧ F a = some (s', d') ∧ s = s' + stS k ∧ d = d' + stD k := by
  rcases (h.sound hb).inv with ⟨e, _⟩ | ⟨a, s1, d1, k, hw1, e, rfl, rfl⟩
  · exact absurd e hne
  · obtain ⟨s', d', h1, h2⟩ := h.least hw1
    obtain ⟨s2, d2, h3, h4⟩ := h.edge h1 e
    rw [hb] at h3
    cases h3
    rw [val_add] at h4
    obtain ⟨n1, n2⟩ := hw1.nonneg
    obtain ⟨a1, a2, a3⟩ := h.small h1
    obtain ⟨b1, b2, b3⟩ := h.small hb
    have c1 := val_small a1 a2 a3
    have c2 := val_small b1 b2 b3
    have c3 := st_bd k
    obtain ⟨e1, e2⟩ := val_inj s' d' s1 d1 (by omega) (by omega) (by omega)
    subst e1 e2
    exact ⟨a, k, s', d', e, h1, rfl, rfl⟩

/-- how many of the first N have a cost -/
def cnt (F : Int → Option (Int × Int)) : Nat → Nat
  | 0 => 0
  | N + 1 => cnt F N + if (F N).isSome then 1 else 0
theorem cnt_le (F : Int → Option (Int × Int)) (N : Nat) : cnt F N ≤ N := by
  induction N with
  | zero => exact Nat.le_refl _
  | succ N ih => unfold cnt; split <;> omega
theorem cnt_same (F : Int → Option (Int × Int)) (a s d : Int) (N : Nat) (h : (N : Int) ≤ a) : cnt (putH F a s d) N = cnt F N := by
  induction N with
  | zero => rfl
  | succ N ih =>
    unfold cnt
    rw [ih (by omega)]
    have : putH F a s d N = F N := if_neg (by omega)
    rw [this]
theorem cnt_put (F : Int → Option (Int × Int)) (a s d : Int) (N : Nat) (h0 : 0 ≤ a) (h : a < N) (hn : F a = none) : cnt (putH F a s d) N = cnt F N + 1 := by
  induction N with
  | zero => omega
  | succ N ih =>
    unfold cnt
    by_cases e : a = N
    · rw [cnt_same F a s d N (by omega)]
      have : putH F a s d N = some (s, d) := if_pos e.symm
      rw [this, ← e, hn]
      simp
    · rw [ih (by omega)]
      have : putH F a s d N = F N := if_neg (fun q => e q.symm)
      rw [this]
      omega
theorem cnt_none (N : Nat) : cnt (fun _ => none) N = 0 := by
  induction N with
  | zero => rfl
  | succ N ih => unfold cnt; rw [ih]; rfl

/-- a flood under way: F final, H to come; D: the edges that have been looked at -/
structure Dij (E : Int → Nat → Int → Prop) (o : Int) (F H : Int → Option (Int × Int)) (D : Int → Nat → Prop) (n : Nat) : Prop where
  sF : ∀ {a s d}, F a = some (s, d) → Wk E o a s d ∧ val s d ≤ n * 54608393
  sH : ∀ {a s d}, H a = some (s, d) → Wk E o a s d ∧ val s d ≤ n * 54608393
  dis : ∀ {a c}, H a = some c → F a = none
  ord : ∀ {a s d b t u}, F a = some (s, d) → H b = some (t, u) → val s d ≤ val t u
  edge : ∀ {a b s d k}, F a = some (s, d) → E a k b → D a k → ∃ s' d', (F b = some (s', d') ∨ H b = some (s', d')) ∧ val s' d' ≤ val s d + val (stS k) (stD k)
  org : ∃ s d, (F o = some (s, d) ∨ H o = some (s, d)) ∧ val s d ≤ 0

theorem Dij.start (E : Int → Nat → Int → Prop) (o : Int) : Dij E o (fun _ => none) (putH (fun _ => none) o 0 0) (fun _ _ => True) 0 := by
  refine ⟨fun h => (by cases h), fun {a s d} h => ?_, fun _ => rfl, fun h => (by cases h), fun h => (by cases h), ⟨0, 0, Or.inr (if_pos rfl), by decide⟩⟩
  unfold putH at h
  split at h
  · cases h; rename_i e; subst e; exact ⟨Wk.nil, by decide⟩
  · cases h

/-- the nearest one of those to come is final now -/
theorem Dij.pop {F H : Int → Option (Int × Int)} {n : Nat} (h : Dij E o F H (fun _ _ => True) n) {a s d : Int} (ha : H a = some (s, d)) (hm : ∀ {b t u}, H b = some (t, u) → val s d ≤ val t u) :
    Dij E o (putH F a s d) (delH H a) (fun x _ => x ≠ a) (n + 1) ∧ F a = none ∧ ∀ {x t u}, putH F a s d x = some (t, u) → val t u ≤ val s d := by
  have hfa := h.dis ha
  refine ⟨⟨fun {x t u} hx => ?_, fun {x t u} hx => ?_, fun {x c} hx => ?_, fun {x t u y t' u'} hx hy => ?_, fun {x y t u k} hx e hD => ?_, ?_⟩, hfa, fun {x t u} hx => ?_⟩
  · unfold putH at hx
    split at hx
    · cases hx; rename_i e; subst e; have := h.sH ha; exact ⟨this.1, by have := this.2; omega⟩
    · have := h.sF hx; exact ⟨this.1, by have := this.2; omega⟩
  · unfold delH at hx
    split at hx
    · cases hx
    · have := h.sH hx; exact ⟨this.1, by have := this.2; omega⟩
  · unfold delH at hx
    split at hx
    · cases hx
    · rename_i e; unfold putH; rw [if_neg e]; exact h.dis hx
  · unfold delH at hy
    split at hy
    · cases hy
    · unfold putH at hx
      split at hx
      · cases hx; exact hm hy
      · exact h.ord hx hy
  · have hx' : F x = some (t, u) := by unfold putH at hx; rw [if_neg hD] at hx; exact hx
    obtain ⟨s', d', h1, h2⟩ := h.edge hx' e trivial
    by_cases e1 : y = a
    · subst e1
      rcases h1 with h1 | h1
      · rw [hfa] at h1; cases h1
      · rw [ha] at h1; cases h1; exact ⟨s, d, Or.inl (if_pos rfl), h2⟩
    · refine ⟨s', d', ?_, h2⟩
      rcases h1 with h1 | h1
      · left; unfold putH; rw [if_neg e1]; exact h1
      · right; unfold delH; rw [if_neg e1]; exact h1
  · obtain ⟨s', d', h1, h2⟩ := h.org
    by_cases e1 : o = a
    · subst e1
      refine ⟨s, d, Or.inl (if_pos rfl), ?_⟩
      rcases h1 with h1 | h1
      · rw [hfa] at h1; cases h1
      · rw [ha] at h1; cases h1; exact h2
    · refine ⟨s', d', ?_, h2⟩
      rcases h1 with h1 | h1
      · left; unfold putH; rw [if_neg e1]; exact h1
      · right; unfold delH; rw [if_neg e1]; exact h1
  · unfold putH at hx
    split at hx
    · cases hx; exact Int.le_refl _
    · exact h.ord hx ha

/-- what a push does to those to come -/
def Pushed (H : Int → Option (Int × Int)) (b s d : Int) (H' : Int → Option (Int × Int)) : Prop :=
  (H' = putH H b s d ∧ ∀ {t u}, H b = some (t, u) → val s d < val t u) ∨ (H' = H ∧ ∃ t u, H b = some (t, u) ∧ val t u ≤ val s d)

theorem Dij.push {F H H' : Int → Option (Int × Int)} {n : Nat} {D : Int → Nat → Prop} {a b s d : Int} {k : Nat} (h : Dij E o F H D (n + 1)) (ha : F a = some (s, d)) (hmx : ∀ {x t u}, F x = some (t, u) → val t u ≤ val s d) (hv : val s d ≤ n * 54608393)
    (e : E a k b) (hb : F b = none) (hp : Pushed H b (s + stS k) (d + stD k) H') (hu : ∀ {y j}, E a j y → j = k → y = b) : Dij E o F H' (fun x j => D x j ∨ (x = a ∧ j = k)) (n + 1) := by
  have hk := val_st k
  have hva := val_add s d (stS k) (stD k)
  rcases hp with ⟨rfl, hp⟩ | ⟨rfl, t, u, hp1, hp2⟩
  · refine ⟨fun hx => h.sF hx, fun {x t u} hx => ?_, fun {x c} hx => ?_, fun {x t u y t' u'} hx hy => ?_, fun {x y t u j} hx e1 hD => ?_, ?_⟩
    · unfold putH at hx
      split at hx
      · cases hx; rename_i e1; subst e1; exact ⟨Wk.step (h.sF ha).1 e, by rw [hva]; omega⟩
      · exact h.sH hx
    · unfold putH at hx
      split at hx
      · rename_i e1; rw [e1]; exact hb
      · exact h.dis hx
    · unfold putH at hy
      split at hy
      · cases hy; have := hmx hx; rw [hva]; omega
      · exact h.ord hx hy
    · by_cases ey : y = b
      · subst ey
        refine ⟨s + stS k, d + stD k, Or.inr (if_pos rfl), ?_⟩
        rcases hD with hD | ⟨rfl, rfl⟩
        · obtain ⟨s', d', h1, h2⟩ := h.edge hx e1 hD
          rcases h1 with h1 | h1
          · rw [hb] at h1; cases h1
          · have := hp h1; omega
        · rw [ha] at hx; cases hx; rw [hva]; exact Int.le_refl _
      · rcases hD with hD | ⟨rfl, rfl⟩
        · obtain ⟨s', d', h1, h2⟩ := h.edge hx e1 hD
          refine ⟨s', d', ?_, h2⟩
          rcases h1 with h1 | h1
          · exact Or.inl h1
          · right; unfold putH; rw [if_neg ey]; exact h1
        · exact absurd (hu e1 rfl) ey
    · obtain ⟨s', d', h1, h2⟩ := h.org
      by_cases e1 : o = b
      · subst e1
        refine ⟨s + stS k, d + stD k, Or.inr (if_pos rfl), ?_⟩
        rcases h1 with h1 | h1
        · rw [hb] at h1; cases h1
        · have := hp h1; omega
      · refine ⟨s', d', ?_, h2⟩
        rcases h1 with h1 | h1
        · exact Or.inl h1
        · right; unfold putH; rw [if_neg e1]; exact h1
  · refine ⟨fun hx => h.sF hx, fun hx => h.sH hx, fun hx => h.dis hx, fun hx hy => h.ord hx hy, fun {x y t' u' j} hx e1 hD => ?_, h.org⟩
    rcases hD with hD | ⟨rfl, rfl⟩
    · exact h.edge hx e1 hD
    · have := hu e1 rfl
      subst this
      rw [ha] at hx; cases hx
      exact ⟨t, u, Or.inr hp1, by rw [hva] at hp2; exact hp2⟩

/-- one that is final already is no farther -/
theorem Dij.pass {F H : Int → Option (Int × Int)} {n : Nat} {D : Int → Nat → Prop} {a b s d : Int} {k : Nat} (h : Dij E o F H D n) (ha : F a = some (s, d)) (hmx : ∀ {x t u}, F x = some (t, u) → val t u ≤ val s d)
    (hb : F b ≠ none) (hu : ∀ {y j}, E a j y → j = k → y = b) : Dij E o F H (fun x j => D x j ∨ (x = a ∧ j = k)) n := by
  refine ⟨fun hx => h.sF hx, fun hx => h.sH hx, fun hx => h.dis hx, fun hx hy => h.ord hx hy, fun {x y t' u' j} hx e1 hD => ?_, h.org⟩
  rcases hD with hD | ⟨rfl, rfl⟩
  · exact h.edge hx e1 hD
  · have := hu e1 rfl
    subst this
    rw [ha] at hx; cases hx
    cases hF : F y with
    | none => exact absurd hF hb
    | some c =>
      obtain ⟨t, u⟩ := c
      have := hmx hF
      have := val_st j
      exact ⟨t, u, Or.inl rfl, by omega⟩

theorem Dij.widen {F H : Int → Option (Int × Int)} {n : Nat} {D D' : Int → Nat → Prop} (h : Dij E o F H D n) (hD : ∀ {a k b s d}, F a = some (s, d) → E a k b → D' a k → D a k) : Dij E o F H D' n :=
  ⟨fun hx => h.sF hx, fun hx => h.sH hx, fun hx => h.dis hx, fun hx hy => h.ord hx hy, fun hx e1 hd => h.edge hx e1 (hD hx e1 hd), h.org⟩

theorem Dij.done {F H : Int → Option (Int × Int)} {n : Nat} (h : Dij E o F H (fun _ _ => True) n) (hH : ∀ a, H a = none) (hn : n ≤ 256) : Best E o F := by
  refine ⟨fun hx => (h.sF hx).1, fun {a s d} hw => ?_, fun {a s d} hx => ?_⟩
  · refine hw.ind (R := fun a s d => ∃ s' d', F a = some (s', d') ∧ val s' d' ≤ val s d) ?_ (fun a s d k b _ ih e => ?_)
    · obtain ⟨s', d', h1, h2⟩ := h.org
      rcases h1 with h1 | h1
      · exact ⟨s', d', h1, h2⟩
      · rw [hH] at h1; cases h1
    · obtain ⟨s', d', h1, h2⟩ := ih
      obtain ⟨s2, d2, h3, h4⟩ := h.edge h1 e trivial
      refine ⟨s2, d2, ?_, by rw [val_add]; omega⟩
      rcases h3 with h3 | h3
      · exact h3
      · rw [hH] at h3; cases h3
  · obtain ⟨h1, h2⟩ := h.sF hx
    obtain ⟨n1, n2⟩ := h1.nonneg
    exact ⟨n1, n2, by omega⟩
end Go.Proofs.YtmnpplkjhnoglaaGreatDoor
/-
  A region that draws its order, whose operations only read old memory and whose callees leave old memory alone, walked once in the order of the text: the class of worlds that have at most grown since the region began.
-/
namespace Go.Proofs.YtmnpplkjhnoglaaGreatDoor
open Go.RowKit

/-- a world that has at most grown since w -/
structure Since (w : World) where
  u : World
  h : Below w.heap.size w u

theorem since_ne (w : World) : Nonempty (Since w) := ⟨⟨w, Below.refl _ _⟩⟩

theorem Since.cell {w : World} (x : Since w) (b o : Nat) (hb : b < w.heap.size) : x.u.cell? ⟨b, o, none⟩ = w.cell? ⟨b, o, none⟩ := x.h.cell (p := ⟨b, o, none⟩) hb

theorem wp_region_since {P : Program} {id : Nat} {Q : Exit → Act → World → Prop} {a : Act} {w : World} {l : List Oper} (hm : P.follows .mixedOrders = true) (hB : Region.lexB .any l.toArray = true)
    (h : wpQuiet P l.toArray (fun w' => ∃ x : Since w, w' = x.u) (fun a' => ∀ w', (∃ x : Since w, w' = x.u) → Q .normal a' w') l a) : (Code.region id l.toArray true).wp P Q a w :=
  wp_region_quiet (C := fun w' => ∃ x : Since w, w' = x.u) hm hB ⟨⟨{ w with drawn := w.drawn + 1 }, (Below.refl _ w).drew⟩, rfl⟩ (by simpa using h)

theorem Calls.since_of {P : Program} {f : FuncId} {args : Array Value} {w : World} {x : Since w} {v : Value}
    (h : Calls P f args x.u fun e w' => e = .returned v ∧ Below x.u.heap.size x.u w') : Calls P f args x.u fun e w'' => e = .returned v ∧ ∃ y : Since w, w'' = y.u :=
  h.mono fun _ w' ⟨he, hb⟩ => ⟨he, ⟨w', x.h.trans (hb.mono x.h.size)⟩, rfl⟩

theorem Calls.since_same {P : Program} {f : FuncId} {args : Array Value} {w : World} {x : Since w} {v : Value}
    (h : Calls P f args x.u fun e w' => e = .returned v ∧ w' = x.u) : Calls P f args x.u fun e w'' => e = .returned v ∧ ∃ y : Since w, w'' = y.u :=
  h.mono fun _ _ ⟨he, hb⟩ => ⟨he, x, hb⟩

theorem bcell {W w1 : World} (hb : Below W.heap.size W w1) : (∀ b o, b < W.heap.size → w1.cell? ⟨b, o, none⟩ = W.cell? ⟨b, o, none⟩) ∧ (∀ b o, b < W.heap.size → w1.frozen? ⟨b, o, none⟩ = W.frozen? ⟨b, o, none⟩) :=
  ⟨fun b o h => hb.cell (p := ⟨b, o, none⟩) h, fun b o h => hb.frozen (p := ⟨b, o, none⟩) h⟩

/-- three blocks one behind the other, read in a later world -/
theorem bcell3 {W w1 : World} (hb : Below W.heap.size W w1) (n : Nat) (h : n + 3 ≤ W.heap.size) :
    (∀ o, w1.cell? ⟨n, o, none⟩ = W.cell? ⟨n, o, none⟩) ∧ (∀ o, w1.cell? ⟨n + 1, o, none⟩ = W.cell? ⟨n + 1, o, none⟩) ∧ (∀ o, w1.cell? ⟨n + 1 + 1, o, none⟩ = W.cell? ⟨n + 1 + 1, o, none⟩) :=
  ⟨fun o => hb.cell (p := ⟨n, o, none⟩) (by show n < _; omega), fun o => hb.cell (p := ⟨n + 1, o, none⟩) (by show n + 1 < _; omega), fun o => hb.cell (p := ⟨n + 1 + 1, o, none⟩) (by show n + 1 + 1 < _; omega)⟩
theorem scell3 (W : World) (n : Nat) (h : n + 3 ≤ W.heap.size) :
    (∀ (x : Since W) o, x.u.cell? ⟨n, o, none⟩ = W.cell? ⟨n, o, none⟩) ∧ (∀ (x : Since W) o, x.u.cell? ⟨n + 1, o, none⟩ = W.cell? ⟨n + 1, o, none⟩) ∧ (∀ (x : Since W) o, x.u.cell? ⟨n + 1 + 1, o, none⟩ = W.cell? ⟨n + 1 + 1, o, none⟩) :=
  ⟨fun x => (bcell3 x.h n h).1, fun x => (bcell3 x.h n h).2.1, fun x => (bcell3 x.h n h).2.2⟩
end Go.Proofs.YtmnpplkjhnoglaaGreatDoor
