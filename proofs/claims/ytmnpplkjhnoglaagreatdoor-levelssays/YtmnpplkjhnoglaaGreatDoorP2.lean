/-
  Texts laid together: LevM, LevL, LevS.
-/
import Derived.Test.YtmnpplkjhnoglaaGreatDoorP1
/-
  Ways over edges that bear costs of their own: what a labelling that cannot be bettered says of them. (For levels.)
-/
namespace Go.Proofs.YtmnpplkjhnoglaaGreatDoor

/-- from o to a over edges, at a cost -/
def Wg (Ed : Int → Int → Int → Int → Prop) (o a s d : Int) : Prop := ∀ R : Int → Int → Int → Prop, R o 0 0 → (∀ a s d b t u, R a s d → Ed a b t u → R b (s + t) (d + u)) → R a s d
section
variable {Ed : Int → Int → Int → Int → Prop} {o a b s d t u : Int}
theorem Wg.nil : Wg Ed o o 0 0 := fun _ h _ => h
theorem Wg.step (h : Wg Ed o a s d) (e : Ed a b t u) : Wg Ed o b (s + t) (d + u) := fun R h0 hs => hs _ _ _ _ _ _ (h R h0 hs) e
theorem Wg.mono {Ed' : Int → Int → Int → Int → Prop} (h : Wg Ed o a s d) (hi : ∀ a b t u, Ed a b t u → Ed' a b t u) : Wg Ed' o a s d :=
  h (fun x p q => Wg Ed' o x p q) Wg.nil (fun _ _ _ _ _ _ hx e => hx.step (hi _ _ _ _ e))
end
end Go.Proofs.YtmnpplkjhnoglaaGreatDoor
/-
  Lists of edges by where they lead, one each: how an edge is laid into one. (For levels.)
-/
namespace Go.Proofs.YtmnpplkjhnoglaaGreatDoor

/-- an edge with what it costs and what it leads over -/
structure LE where
  to : Nat
  s : Int
  d : Int
  mid : Int
/-- by where they lead, one each -/
def Rsg (l : List LE) : Prop := l.Pairwise (fun a b => a.to < b.to)
/-- laid into a list, in the place of one that leads there -/
def layF (x : LE) : List LE → List LE
  | [] => [x]
  | y :: l => if x.to < y.to then x :: y :: l else if x.to = y.to then x :: l else y :: layF x l
theorem Rsg.tail {y : LE} {l : List LE} (h : Rsg (y :: l)) : Rsg l := (List.pairwise_cons.1 h).2
theorem Rsg.head {y : LE} {l : List LE} (h : Rsg (y :: l)) : ∀ e ∈ l, y.to < e.to := (List.pairwise_cons.1 h).1
theorem layF_mem {x : LE} : ∀ {l : List LE}, Rsg l → ∀ e, e ∈ layF x l ↔ e = x ∨ (e ∈ l ∧ e.to ≠ x.to)
  | [], _, e => by simp [layF]
  | y :: l, h, e => by
    have ih := layF_mem (x := x) h.tail e
    unfold layF
    by_cases h1 : x.to < y.to
    · rw [if_pos h1, List.mem_cons]
      refine or_congr_right ⟨fun he => ⟨he, ?_⟩, fun he => he.1⟩
      rcases List.mem_cons.1 he with rfl | he
      · omega
      · have := h.head e he
        omega
    · rw [if_neg h1]
      by_cases h2 : x.to = y.to
      · rw [if_pos h2, List.mem_cons]
        refine or_congr_right ⟨fun he => ⟨List.mem_cons_of_mem _ he, ?_⟩, fun ⟨he, hn⟩ => ?_⟩
        · have := h.head e he
          omega
        · rcases List.mem_cons.1 he with rfl | he
          · exact absurd h2.symm hn
          · exact he
      · rw [if_neg h2, List.mem_cons, ih, List.mem_cons]
        constructor
        · rintro (rfl | h3 | ⟨h3, h4⟩)
          · exact Or.inr ⟨Or.inl rfl, fun e => h2 e.symm⟩
          · exact Or.inl h3
          · exact Or.inr ⟨Or.inr h3, h4⟩
        · rintro (h3 | ⟨h3 | h3, h4⟩)
          · exact Or.inr (Or.inl h3)
          · exact Or.inl h3
          · exact Or.inr (Or.inr ⟨h3, h4⟩)
theorem layF_ord {x : LE} : ∀ {l : List LE}, Rsg l → Rsg (layF x l)
  | [], _ => List.pairwise_singleton _ _
  | y :: l, h => by
    have ih := layF_ord (x := x) h.tail
    unfold layF
    by_cases h1 : x.to < y.to
    · rw [if_pos h1]
      refine List.pairwise_cons.2 ⟨fun e he => ?_, h⟩
      rcases List.mem_cons.1 he with rfl | he
      · exact h1
      · have := h.head e he
        omega
    · rw [if_neg h1]
      by_cases h2 : x.to = y.to
      · rw [if_pos h2]
        exact List.pairwise_cons.2 ⟨fun e he => by have := h.head e he; omega, h.tail⟩
      · rw [if_neg h2]
        refine List.pairwise_cons.2 ⟨fun e he => ?_, ih⟩
        rcases (layF_mem h.tail e).1 he with rfl | ⟨he, _⟩
        · omega
        · exact h.head e he
/-- of those that lead to one place there is one at most -/
theorem Rsg.one {l : List LE} (h : Rsg l) {e e' : LE} (h1 : e ∈ l) (h2 : e' ∈ l) (ht : e.to = e'.to) : e = e' := by
  induction l with
  | nil => cases h1
  | cons y l ih =>
    rcases List.mem_cons.1 h1 with rfl | a
    · rcases List.mem_cons.1 h2 with b | b
      · exact b.symm
      · have := h.head e' b; omega
    · rcases List.mem_cons.1 h2 with rfl | b
      · have := h.head e a; omega
      · exact ih h.tail a b
end Go.Proofs.YtmnpplkjhnoglaaGreatDoor
/-
  Levels as states: one corner's turn, a round, all rounds; what comes out is one state. (For levels.)
-/
namespace Go.Proofs.YtmnpplkjhnoglaaGreatDoor

/-- levels (0: none yet), and the edges of each corner -/
structure LSt where
  lev : Nat → Nat
  es : Nat → List LE
/-- the edges to corners that have no level, other than n -/
def EdR (st : LSt) (n : Nat) (a b t u : Int) : Prop := ∃ e ∈ st.es a.toNat, b = (e.to : Int) ∧ t = e.s ∧ u = e.d ∧ st.lev e.to = 0 ∧ e.to ≠ n
/-- an edge between where two lead is needed -/
def Need (st : LSt) (n : Nat) (a b : LE) : Prop := ¬ ∃ p q, Wg (EdR st n) (a.to : Int) (b.to : Int) p q ∧ val p q ≤ val (a.s + b.s) (a.d + b.d)
def feF (st : LSt) (n : Nat) : List LE := (st.es n).filter (fun e => st.lev e.to == 0)
/-- what is needed, in its order -/
def moreF (p : LE → LE → Bool) (n : Nat) : List LE → List (Nat × LE)
  | [] => []
  | a :: l => (l.filter (p a)).map (fun b => (a.to, ⟨b.to, a.s + b.s, a.d + b.d, (n : Int)⟩)) ++ moreF p n l
def putE (es : Nat → List LE) (n : Nat) (l : List LE) : Nat → List LE := fun k => if k = n then l else es k
/-- an edge laid either way -/
def lay2 (es : Nat → List LE) (x : Nat × LE) : Nat → List LE :=
  putE (putE es x.1 (layF x.2 (es x.1))) x.2.to (layF ⟨x.1, x.2.s, x.2.d, x.2.mid⟩ (putE es x.1 (layF x.2 (es x.1)) x.2.to))
def layAll (es : Nat → List LE) (l : List (Nat × LE)) : Nat → List LE := l.foldl lay2 es
/-- one corner's turn -/
def Turn (top n : Nat) (st : LSt) (nr : Nat → Bool) (st' : LSt) (nr' : Nat → Bool) (got : Bool) : Prop :=
  ((0 < st.lev n ∨ nr n = true) ∧ st' = st ∧ nr' = nr ∧ got = false) ∨
  (¬ (0 < st.lev n ∨ nr n = true) ∧ ∃ p : LE → LE → Bool, (∀ a b, p a b = true ↔ Need st n a b) ∧
    (((feF st n).length < (moreF p n (feF st n)).length ∧ st' = st ∧ nr' = nr ∧ got = false) ∨
     (¬ (feF st n).length < (moreF p n (feF st n)).length ∧ st' = ⟨fun k => if k = n then top else st.lev k, layAll st.es (moreF p n (feF st n))⟩ ∧ nr' = (fun k => nr k || (feF st n).any (fun e => e.to == k)) ∧ got = true)))
theorem Turn.one {top n : Nat} {st st1 st2 : LSt} {nr nr1 nr2 : Nat → Bool} {g1 g2 : Bool} (h1 : Turn top n st nr st1 nr1 g1) (h2 : Turn top n st nr st2 nr2 g2) : st1 = st2 ∧ nr1 = nr2 ∧ g1 = g2 := by
  rcases h1 with ⟨a1, a2, a3, a4⟩ | ⟨a1, p, hp, h1⟩
  · rcases h2 with ⟨_, b2, b3, b4⟩ | ⟨b1, _⟩
    · exact ⟨a2.trans b2.symm, a3.trans b3.symm, a4.trans b4.symm⟩
    · exact absurd a1 b1
  · rcases h2 with ⟨b1, _⟩ | ⟨_, q, hq, h2⟩
    · exact absurd b1 a1
    · have e : p = q := funext fun a => funext fun b => by
        have h := (hp a b).trans (hq a b).symm
        cases hx : p a b with
        | true => exact (h.1 hx).symm
        | false =>
          cases hy : q a b with
          | true => rw [h.2 hy] at hx; cases hx
          | false => rfl
      subst e
      rcases h1 with ⟨c1, c2, c3, c4⟩ | ⟨c1, c2, c3, c4⟩
      · rcases h2 with ⟨_, d2, d3, d4⟩ | ⟨d1, _⟩
        · exact ⟨c2.trans d2.symm, c3.trans d3.symm, c4.trans d4.symm⟩
        · exact absurd c1 d1
      · rcases h2 with ⟨d1, _⟩ | ⟨_, d2, d3, d4⟩
        · exact absurd d1 c1
        · exact ⟨c2.trans d2.symm, c3.trans d3.symm, c4.trans d4.symm⟩
/-- the corners of a list have their turns -/
def Rnd (top : Nat) : List Nat → LSt → (Nat → Bool) → LSt → (Nat → Bool) → Bool → Prop
  | [], st, nr, st', nr', got => st' = st ∧ nr' = nr ∧ got = false
  | n :: L, st, nr, st', nr', got => ∃ st1 nr1 g1 g2, Turn top n st nr st1 nr1 g1 ∧ Rnd top L st1 nr1 st' nr' g2 ∧ got = (g1 || g2)
theorem Rnd.one {top : Nat} : ∀ {L : List Nat} {st st1 st2 : LSt} {nr nr1 nr2 : Nat → Bool} {g1 g2 : Bool}, Rnd top L st nr st1 nr1 g1 → Rnd top L st nr st2 nr2 g2 → st1 = st2 ∧ nr1 = nr2 ∧ g1 = g2
  | [], _, _, _, _, _, _, _, _, ⟨a1, a2, a3⟩, ⟨b1, b2, b3⟩ => ⟨a1.trans b1.symm, a2.trans b2.symm, a3.trans b3.symm⟩
  | _ :: _, _, _, _, _, _, _, _, _, ⟨sa, na, ga, ha, a1, a2, a3⟩, ⟨sb, nb, gb, hb, b1, b2, b3⟩ => by
    obtain ⟨rfl, rfl, rfl⟩ := a1.one b1
    obtain ⟨rfl, rfl, rfl⟩ := a2.one b2
    exact ⟨rfl, rfl, a3.trans b3.symm⟩
theorem Rnd.snoc {top n : Nat} {st2 : LSt} {nr2 : Nat → Bool} {g2 : Bool} : ∀ {L : List Nat} {st st1 : LSt} {nr nr1 : Nat → Bool} {g1 : Bool}, Rnd top L st nr st1 nr1 g1 → Turn top n st1 nr1 st2 nr2 g2 → Rnd top (L ++ [n]) st nr st2 nr2 (g1 || g2)
  | [], st, st1, nr, nr1, g1, ⟨a1, a2, a3⟩, h => by
    subst a1 a2 a3
    exact ⟨st2, nr2, g2, false, h, ⟨rfl, rfl, rfl⟩, by cases g2 <;> rfl⟩
  | _ :: _, st, st1, nr, nr1, g1, ⟨sa, na, ga, ha, a1, a2, a3⟩, h => ⟨sa, na, ga, ha || g2, a1, a2.snoc h, by rw [a3, Bool.or_assoc]⟩
/-- so many rounds in which some got a level: Top is then one more -/
def Rds (most : Nat) (L : List Nat) (st0 : LSt) : Nat → LSt → Prop
  | 0, st => st = st0
  | k + 1, st => ∃ st1 nr', Rds most L st0 k st1 ∧ k + 1 < most ∧ Rnd (k + 1) L st1 (fun _ => false) st nr' true
theorem Rds.one {most : Nat} {L : List Nat} {st0 : LSt} : ∀ {k : Nat} {st1 st2 : LSt}, Rds most L st0 k st1 → Rds most L st0 k st2 → st1 = st2
  | 0, _, _, h1, h2 => Eq.trans h1 (Eq.symm h2)
  | _ + 1, _, _, ⟨a, _, a1, _, a3⟩, ⟨b, _, b1, _, b3⟩ => by
    have e := Rds.one a1 b1
    subst e
    exact (a3.one b3).1
theorem Rds.less {most : Nat} {L : List Nat} {st0 : LSt} {k : Nat} : ∀ {j : Nat} {st : LSt}, Rds most L st0 (k + j) st → ∃ st', Rds most L st0 k st'
  | 0, st, h => ⟨st, h⟩
  | _ + 1, _, ⟨_, _, h, _, _⟩ => h.less
/-- rounds are over -/
def Over (most : Nat) (L : List Nat) (k : Nat) (st : LSt) : Prop := most ≤ k + 1 ∨ ∃ st' nr', Rnd (k + 1) L st (fun _ => false) st' nr' false
/-- levels, all rounds done: Top and what came out are one -/
theorem rounds_one {most : Nat} {L : List Nat} {st0 : LSt} {k k' : Nat} {st st' : LSt} (h : Rds most L st0 k st) (ho : Over most L k st) (h' : Rds most L st0 k' st') (ho' : Over most L k' st') : k = k' ∧ st = st' := by
  have key : ∀ {k j : Nat} {st st' : LSt}, Rds most L st0 k st → Over most L k st → ¬ Rds most L st0 (k + 1 + j) st' := fun {k j st st'} h ho h' => by
    obtain ⟨st2, a, nr2, a1, a2, a3⟩ := h'.less
    have e := Rds.one a1 h
    subst e
    rcases ho with ho | ⟨s3, n3, b⟩
    · omega
    · exact absurd (a3.one b).2.2 (by decide)
  have e : k = k' := by
    rcases Nat.lt_trichotomy k k' with hlt | e | hlt
    · obtain ⟨j, rfl⟩ : ∃ j, k' = k + 1 + j := ⟨k' - (k + 1), by omega⟩
      exact absurd h' (key h ho)
    · exact e
    · obtain ⟨j, rfl⟩ : ∃ j, k = k' + 1 + j := ⟨k - (k' + 1), by omega⟩
      exact absurd h (key h' ho')
  subst e
  exact ⟨rfl, Rds.one h h'⟩
end Go.Proofs.YtmnpplkjhnoglaaGreatDoor
