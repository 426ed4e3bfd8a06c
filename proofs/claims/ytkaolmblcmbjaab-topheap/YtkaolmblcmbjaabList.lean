/-
  A heap as a list in order: what laying one in does; no Go in sight.
-/
import Derived.Test.YtkaolmblcmbjaabBefore
namespace Go.Proofs.Ytkaolmblcmbjaab

theorem bef_lt {x y z : Item} (h : bef x y) (k : bef y z) : bef x z := by
  unfold bef at *; omega
theorem bef_total {x y : Item} (h : y.id ≠ x.id) (k : ¬ bef x y) : bef y x := by
  unfold bef at *; omega

/-- a list in order has these numbers with their costs -/
structure InOrder (L : List Item) (H : Int → Option (Int × Int)) : Prop where
  sorted : L.Pairwise bef
  mem : ∀ a s d, H a = some (s, d) ↔ (⟨a, s, d⟩ : Item) ∈ L

theorem InOrder.nodup {L : List Item} {H : Int → Option (Int × Int)} (h : InOrder L H) : L.Nodup :=
  h.sorted.imp (fun {a b} k e => by subst e; exact bef_irrefl _ k)

theorem InOrder.count {L : List Item} {H : Int → Option (Int × Int)} (h : InOrder L H) {it : Nat → Item} {n : Nat} (hh : Holds it n H) (hp : Apart it n) : L.length = n := by
  have d2 : ((List.range n).map it).Nodup := by
    have : (List.range n).Pairwise (fun i j => it i ≠ it j) := by
      refine List.Pairwise.imp_of_mem ?_ (List.nodup_range (n := n))
      intro i j hi hj hne e
      rw [List.mem_range] at hi hj
      exact hne (hp i j hi hj (by rw [e]))
    exact List.Pairwise.map it (fun _ _ h => h) this
  have p := (List.perm_ext_iff_of_nodup h.nodup d2).mpr (fun x => by
    rw [List.mem_map]
    constructor
    · intro hx
      obtain ⟨i, hi, e⟩ := (hh x.id x.s x.d).mp ((h.mem x.id x.s x.d).mpr hx)
      exact ⟨i, List.mem_range.mpr hi, e⟩
    · rintro ⟨i, hi, rfl⟩
      exact (h.mem _ _ _).mp (hh.at (List.mem_range.mp hi)))
  have := p.length_eq
  simpa using this

theorem InOrder.nil : InOrder [] (fun _ => none) := ⟨List.Pairwise.nil, fun a s d => ⟨fun h => (by cases h), fun h => (by cases h)⟩⟩

/-- the first one -/
theorem InOrder.head {x y : Item} {L : List Item} {H : Int → Option (Int × Int)} (h : InOrder (x :: L) H) (hy : H y.id = some (y.s, y.d)) (hm : ∀ a s d, H a = some (s, d) → ¬ bef ⟨a, s, d⟩ y) : y = x := by
  have hx : H x.id = some (x.s, x.d) := (h.mem _ _ _).mpr (List.mem_cons_self ..)
  have h1 : ¬ bef x y := hm _ _ _ hx
  have hin : y ∈ x :: L := (h.mem y.id y.s y.d).mp hy
  rcases List.mem_cons.mp hin with e | e
  · exact e
  · exact absurd (List.rel_of_pairwise_cons h.sorted e) h1

theorem InOrder.tail {x : Item} {L : List Item} {H : Int → Option (Int × Int)} (h : InOrder (x :: L) H) : InOrder L (delH H x.id) := by
  refine ⟨(List.pairwise_cons.mp h.sorted).2, fun a s d => ?_⟩
  unfold delH
  have hx : H x.id = some (x.s, x.d) := (h.mem _ _ _).mpr (List.mem_cons_self ..)
  by_cases e : a = x.id
  · rw [if_pos e]
    constructor
    · intro q; cases q
    · intro q
      have h1 := (h.mem a s d).mpr (List.mem_cons_of_mem _ q)
      rw [e, hx] at h1
      cases h1
      exact absurd (List.rel_of_pairwise_cons h.sorted q) (by rw [e]; exact bef_irrefl x)
  · rw [if_neg e, h.mem a s d, List.mem_cons]
    constructor
    · rintro (q | q)
      · exact absurd (by rw [← q]) e
      · exact q
    · exact Or.inr

/-- one item is gone over -/
def stI (x : Item) (p : List Item × Bool) (y : Item) : List Item × Bool :=
  if y.id = x.id then p else if !p.2 && befB x y then (p.1 ++ [x] ++ [y], true) else (p.1 ++ [y], p.2)
/-- the first k are gone over -/
def goI (x : Item) (L : List Item) (k : Nat) : List Item × Bool := (L.take k).foldl (stI x) ([], false)
def finI (x : Item) (p : List Item × Bool) : List Item := if p.2 then p.1 else p.1 ++ [x]

theorem goI_zero (x : Item) (L : List Item) : goI x L 0 = ([], false) := rfl
theorem goI_succ (x : Item) (L : List Item) (k : Nat) (h : k < L.length) : goI x L (k + 1) = stI x (goI x L k) L[k] := by
  unfold goI
  rw [List.take_succ_eq_append_getElem h, List.foldl_append]
  rfl
theorem goI_len (x : Item) (L : List Item) (k : Nat) (h : k ≤ L.length) : (goI x L k).1.length ≤ 2 * k := by
  induction k with
  | zero => simp [goI_zero]
  | succ k ih =>
    rw [goI_succ x L k (by omega)]
    have := ih (by omega)
    unfold stI
    split
    · omega
    · split <;> simp <;> omega

structure Gone (x : Item) (L : List Item) (k : Nat) (p : List Item × Bool) : Prop where
  mem : ∀ y, y ∈ p.1 ↔ (p.2 = true ∧ y = x) ∨ (y ∈ L.take k ∧ y.id ≠ x.id)
  sorted : p.1.Pairwise bef
  low : p.2 = false → ∀ y, y ∈ p.1 → bef y x
  next : ∀ y, y ∈ p.1 → ∀ z, z ∈ L.drop k → z.id ≠ x.id → bef y z

theorem gone_at (x : Item) (L : List Item) (hs : L.Pairwise bef) (k : Nat) (hk : k ≤ L.length) : Gone x L k (goI x L k) := by
  induction k with
  | zero => exact ⟨fun y => by simp [goI_zero], by simp [goI_zero], fun _ y h => by simp [goI_zero] at h, fun y h => by simp [goI_zero] at h⟩
  | succ k ih =>
    have hlt : k < L.length := by omega
    have G := ih (by omega)
    rw [goI_succ x L k hlt]
    have hmem : ∀ y, y ∈ L.take (k + 1) ↔ y ∈ L.take k ∨ y = L[k] := fun y => by
      rw [List.take_succ_eq_append_getElem hlt, List.mem_append, List.mem_singleton]
    have hdrop : L.drop k = L[k] :: L.drop (k + 1) := List.drop_eq_getElem_cons hlt
    have hnext : ∀ z, z ∈ L.drop (k + 1) → bef L[k] z := by
      intro z hz
      have h1 : (L.drop k).Pairwise bef := hs.sublist (List.drop_sublist k L)
      rw [hdrop] at h1
      exact List.rel_of_pairwise_cons h1 hz
    have hd : ∀ z, z ∈ L.drop (k + 1) → z ∈ L.drop k := fun z hz => by rw [hdrop]; exact List.mem_cons_of_mem _ hz
    have hk0 : L[k] ∈ L.drop k := by rw [hdrop]; exact List.mem_cons_self ..
    generalize goI x L k = p at *
    obtain ⟨out, laid⟩ := p
    unfold stI
    by_cases e : L[k].id = x.id
    · rw [if_pos e]
      refine ⟨fun y => ?_, G.sorted, G.low, fun y hy z hz => G.next y hy z (hd z hz)⟩
      rw [G.mem y, hmem y]
      constructor
      · rintro (h | ⟨h, h2⟩)
        · exact Or.inl h
        · exact Or.inr ⟨Or.inl h, h2⟩
      · rintro (h | ⟨h | h, h2⟩)
        · exact Or.inl h
        · exact Or.inr ⟨h, h2⟩
        · exact absurd (by rw [h]; exact e) h2
    · rw [if_neg e]
      by_cases c : (!laid && befB x L[k]) = true
      · rw [if_pos c]
        obtain ⟨c1, c2⟩ := Bool.and_eq_true_iff.mp c
        have c1 : laid = false := by simpa using c1
        have c2 := of_befB c2
        subst c1
        have hlow := G.low rfl
        refine ⟨fun y => ?_, ?_, fun h => (by cases h), fun y hy z hz hzi => ?_⟩
        · simp only [List.mem_append, List.mem_singleton]
          rw [G.mem y, hmem y]
          constructor
          · rintro ((h | h) | h)
            · rcases h with ⟨h, _⟩ | ⟨h, h2⟩
              · cases h
              · exact Or.inr ⟨Or.inl h, h2⟩
            · exact Or.inl ⟨trivial, h⟩
            · exact Or.inr ⟨Or.inr h, by rw [h]; exact e⟩
          · rintro (⟨_, h⟩ | ⟨h | h, h2⟩)
            · exact Or.inl (Or.inr h)
            · exact Or.inl (Or.inl (Or.inr ⟨h, h2⟩))
            · exact Or.inr h
        · rw [List.pairwise_append, List.pairwise_append]
          refine ⟨⟨G.sorted, List.pairwise_singleton .., fun y hy z hz => ?_⟩, List.pairwise_singleton .., fun y hy z hz => ?_⟩
          · rw [List.mem_singleton] at hz; subst hz; exact hlow y hy
          · rw [List.mem_singleton] at hz; subst hz
            rcases List.mem_append.mp hy with h | h
            · exact G.next y h _ hk0 e
            · rw [List.mem_singleton] at h; subst h; exact c2
        · simp only [List.mem_append, List.mem_singleton] at hy
          rcases hy with (h | h) | h
          · exact G.next y h z (hd z hz) hzi
          · rw [h]; exact bef_lt c2 (hnext z hz)
          · rw [h]; exact hnext z hz
      · rw [if_neg c]
        refine ⟨fun y => ?_, ?_, fun hl y hy => ?_, fun y hy z hz hzi => ?_⟩
        · simp only [List.mem_append, List.mem_singleton]
          rw [G.mem y, hmem y]
          constructor
          · rintro (h | h)
            · rcases h with h | ⟨h, h2⟩
              · exact Or.inl h
              · exact Or.inr ⟨Or.inl h, h2⟩
            · exact Or.inr ⟨Or.inr h, by rw [h]; exact e⟩
          · rintro (h | ⟨h | h, h2⟩)
            · exact Or.inl (Or.inl h)
            · exact Or.inl (Or.inr ⟨h, h2⟩)
            · exact Or.inr h
        · rw [List.pairwise_append]
          refine ⟨G.sorted, List.pairwise_singleton .., fun y hy z hz => ?_⟩
          rw [List.mem_singleton] at hz; subst hz
          exact G.next y hy _ hk0 e
        · have hl' : laid = false := hl
          subst hl'
          simp only [List.mem_append, List.mem_singleton] at hy
          rcases hy with h | h
          · exact G.low rfl y h
          · rw [h]
            refine bef_total e (fun q => c ?_)
            rw [befB_true q]; rfl
        · simp only [List.mem_append, List.mem_singleton] at hy
          rcases hy with h | h
          · exact G.next y h z (hd z hz) hzi
          · rw [h]; exact hnext z hz

theorem InOrder.push {L : List Item} {H : Int → Option (Int × Int)} (h : InOrder L H) (x : Item) : InOrder (finI x (goI x L L.length)) (putH H x.id x.s x.d) := by
  have G := gone_at x L h.sorted L.length (Nat.le_refl _)
  have hm : ∀ y, y ∈ finI x (goI x L L.length) ↔ y = x ∨ (y ∈ L ∧ y.id ≠ x.id) := by
    intro y
    have g := G.mem y
    rw [List.take_length] at g
    unfold finI
    cases hl : (goI x L L.length).2 with
    | true =>
      rw [hl] at g
      simp only [if_true]
      rw [g]; simp
    | false =>
      rw [hl] at g
      simp only [Bool.false_eq_true, if_false, List.mem_append, List.mem_singleton]
      rw [g]; simp
      exact Or.comm
  refine ⟨?_, fun a s d => ?_⟩
  · unfold finI
    cases hl : (goI x L L.length).2 with
    | true => simp only [if_true]; exact G.sorted
    | false =>
      simp only [Bool.false_eq_true, if_false]
      rw [List.pairwise_append]
      refine ⟨G.sorted, List.pairwise_singleton .., fun y hy z hz => ?_⟩
      rw [List.mem_singleton] at hz; subst hz
      exact G.low hl y hy
  · rw [hm]
    unfold putH
    by_cases e : a = x.id
    · subst e
      rw [if_pos rfl]
      constructor
      · intro q; cases q; exact Or.inl rfl
      · rintro (q | ⟨_, q⟩)
        · rw [← q]
        · exact absurd rfl q
    · rw [if_neg e, h.mem a s d]
      constructor
      · intro q; exact Or.inr ⟨q, e⟩
      · rintro (q | ⟨q, _⟩)
        · exact absurd (by rw [← q]) e
        · exact q
end Go.Proofs.Ytkaolmblcmbjaab
