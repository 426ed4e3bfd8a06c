/-
  Texts laid together: LevR, LevU.
-/
import Derived.Test.YtmnpplkjhnoglaaGreatDoorP25
/-
  Levels when rounds are over. (For levels.)
-/
namespace Go.Proofs.YtmnpplkjhnoglaaGreatDoor

/-- between rounds: k of them are done -/
structure Lrd (k : Nat) (st : LSt) : Prop where
  esy : Esy st.es
  le : ∀ n, st.lev n ≤ k
  apart : ∀ {a e}, e ∈ st.es a → 0 < st.lev a → st.lev e.to ≠ st.lev a
  mid : ∀ {a e}, e ∈ st.es a → 0 ≤ e.mid → 0 < st.lev e.mid.toNat ∧ (st.lev a = 0 ∨ st.lev e.mid.toNat < st.lev a)
  sum : ∀ {a e}, e ∈ st.es a → 0 ≤ e.mid → ∃ e1 ∈ st.es a, e1.to = e.mid.toNat ∧ ∃ e2 ∈ st.es e.mid.toNat, e2.to = e.to ∧ e.s = e1.s + e2.s ∧ e.d = e1.d + e2.d
theorem Lrd.lin {k : Nat} {st : LSt} (h : Lrd k st) : Lin (k + 1) st (fun _ => false) :=
  ⟨h.esy, Nat.succ_pos k, fun n => Nat.le_succ_of_le (h.le n), fun _ h => (by cases h), fun {a e} _ h1 _ => absurd h1 (by have := h.le a; omega), h.apart, h.mid, fun {a e} _ _ h1 => absurd h1 (by have := h.le e.mid.toNat; omega), h.sum⟩
theorem Lin.lrd {t : Nat} {st : LSt} {nr : Nat → Bool} (h : Lin t st nr) : Lrd t st := ⟨h.esy, h.le, h.apart, h.mid, h.sum⟩
theorem Lin.rnd {t : Nat} : ∀ {L : List Nat} {st st' : LSt} {nr nr' : Nat → Bool} {g : Bool}, Lin t st nr → Rnd t L st nr st' nr' g → Lin t st' nr'
  | [], _, _, _, _, _, h, ⟨h1, h2, _⟩ => by rw [h1, h2]; exact h
  | _ :: _, _, _, _, _, _, h, ⟨_, _, _, _, h1, h2, _⟩ => (h.turn h1).rnd h2
/-- a round in which none got a level left all as it was -/
theorem Turn.none {t n : Nat} {st st' : LSt} {nr nr' : Nat → Bool} (h : Turn t n st nr st' nr' false) : st' = st := by
  rcases h with ⟨_, h, _⟩ | ⟨_, _, _, ⟨_, h, _⟩ | ⟨_, _, _, h⟩⟩
  · exact h
  · exact h
  · cases h
theorem Rnd.none {t : Nat} : ∀ {L : List Nat} {st st' : LSt} {nr nr' : Nat → Bool}, Rnd t L st nr st' nr' false → st' = st
  | [], _, _, _, _, ⟨h, _⟩ => h
  | _ :: _, _, _, _, _, ⟨_, _, g1, g2, h1, h2, h3⟩ => by
    cases g1 with
    | true => cases h3
    | false =>
      cases g2 with
      | true => cases h3
      | false => exact h2.none.trans h1.none
theorem Lrd.rds {most : Nat} {L : List Nat} {st0 : LSt} (h0 : Lrd 0 st0) : ∀ {k : Nat} {st : LSt}, Rds most L st0 k st → Lrd k st
  | 0, st, h => by
    have e : st = st0 := h
    rw [e]; exact h0
  | _ + 1, _, ⟨_, _, h1, _, h2⟩ => ((Lrd.rds h0 h1).lin.rnd h2).lrd
/-- the graph's own edges: no level, nothing led over -/
theorem Lrd.start {st : LSt} (hE : Esy st.es) (h0 : ∀ n, st.lev n = 0) (hm : ∀ {a e}, e ∈ st.es a → e.mid < 0) : Lrd 0 st :=
  ⟨hE, fun n => Nat.le_of_eq (h0 n), fun {a e} _ h => absurd h (by rw [h0]; omega), fun he h => absurd h (by have := hm he; omega), fun he h => absurd h (by have := hm he; omega)⟩
/-- in the end those that have none get Top -/
def endL (T : Nat) (st : LSt) (n : Nat) : Nat := if st.lev n = 0 then T else st.lev n
section
variable {k : Nat} {st : LSt}
theorem Lrd.end_le (h : Lrd k st) (n : Nat) : 1 ≤ endL (k + 1) st n ∧ endL (k + 1) st n ≤ k + 1 := by
  unfold endL
  have := h.le n
  split <;> omega
theorem Lrd.end_apart (h : Lrd k st) {a : Nat} {e : LE} (he : e ∈ st.es a) (h1 : endL (k + 1) st e.to = endL (k + 1) st a) : ¬ endL (k + 1) st a < k + 1 := by
  intro h2
  have ha := h.le a
  have hb := h.le e.to
  unfold endL at h1 h2
  by_cases e1 : st.lev a = 0
  · rw [if_pos e1] at h2; omega
  · rw [if_neg e1] at h1
    by_cases e2 : st.lev e.to = 0
    · rw [if_pos e2] at h1; omega
    · rw [if_neg e2] at h1
      exact h.apart he (by omega) h1
theorem Lrd.end_mid (h : Lrd k st) {a : Nat} {e : LE} (he : e ∈ st.es a) (h0 : 0 ≤ e.mid) : endL (k + 1) st e.mid.toNat < endL (k + 1) st a ∧ endL (k + 1) st e.mid.toNat < endL (k + 1) st e.to := by
  have key : ∀ {a : Nat} {e : LE}, e ∈ st.es a → 0 ≤ e.mid → endL (k + 1) st e.mid.toNat < endL (k + 1) st a := fun {a e} he h0 => by
    obtain ⟨m1, m2⟩ := h.mid he h0
    have hm := h.le e.mid.toNat
    unfold endL
    rw [if_neg (show ¬ st.lev e.mid.toNat = 0 by omega)]
    by_cases e1 : st.lev a = 0
    · rw [if_pos e1]; omega
    · rw [if_neg e1]; omega
  exact ⟨key he h0, key (e := ⟨a, e.s, e.d, e.mid⟩) (h.esy.back he) h0⟩
end
end Go.Proofs.YtmnpplkjhnoglaaGreatDoor
/-
  Edges that were added, taken apart: the way over the graph's own edges, which costs the same. (For levels.)
-/
namespace Go.Proofs.YtmnpplkjhnoglaaGreatDoor

/-- what leads over nothing is the graph's own -/
theorem Turn.own {top n : Nat} {st st' : LSt} {nr nr' : Nat → Bool} {g : Bool} (h : Turn top n st nr st' nr' g) (hE : Esy st.es) {a : Nat} {e : LE} (he : e ∈ st'.es a) (hm : e.mid < 0) : e ∈ st.es a := by
  rcases h with ⟨_, rfl, _⟩ | ⟨_, p, _, ⟨_, rfl, _⟩ | ⟨_, rfl, _⟩⟩
  · exact he
  · exact he
  · have hfe := fun {x : Nat × LE} (hx : x ∈ moreF p n (feF st n)) => moreF_mem (feF_ord (hE.ord n)) hx
    have hne : ∀ x ∈ moreF p n (feF st n), x.1 ≠ x.2.to := fun x hx => by
      obtain ⟨a, _, b, _, h3, _, rfl⟩ := hfe hx
      exact Nat.ne_of_lt h3
    rcases (layAll_mem hE hne).2 a e he with h | ⟨x, hx, h⟩
    · exact h
    · obtain ⟨u, _, v, _, _, _, rfl⟩ := hfe hx
      rcases h with ⟨_, rfl⟩ | ⟨_, rfl⟩
      · exact absurd hm (show ¬ ((n : Nat) : Int) < 0 by omega)
      · exact absurd hm (show ¬ ((n : Nat) : Int) < 0 by omega)
theorem Rnd.own {t : Nat} : ∀ {L : List Nat} {st st' : LSt} {nr nr' : Nat → Bool} {g : Bool}, Rnd t L st nr st' nr' g → Esy st.es → ∀ {a : Nat} {e : LE}, e ∈ st'.es a → e.mid < 0 → e ∈ st.es a
  | [], _, _, _, _, _, ⟨h, _⟩, _, _, _, he, _ => by rw [← h]; exact he
  | _ :: _, _, _, _, _, _, ⟨_, _, _, _, h1, h2, _⟩, hE, _, _, he, hm => h1.own hE (h2.own (h1.esy hE) he hm) hm
theorem Rds.own {most : Nat} {L : List Nat} {st0 : LSt} (h0 : Lrd 0 st0) : ∀ {k : Nat} {st : LSt}, Rds most L st0 k st → ∀ {a : Nat} {e : LE}, e ∈ st.es a → e.mid < 0 → e ∈ st0.es a
  | 0, st, h, _, _, he, _ => by
    have e : st = st0 := h
    rw [← e]; exact he
  | _ + 1, _, ⟨_, _, h1, _, h2⟩, _, _, he, hm => Rds.own h0 h1 (h2.own (Lrd.rds h0 h1).esy he hm) hm

/-- the way of an edge, taken apart at most so deep -/
def Unp (es : Nat → List LE) : Nat → Nat → Nat → List Nat → Prop
  | 0, _, _, _ => False
  | f + 1, a, b, way => ∃ e ∈ es a, e.to = b ∧ ((e.mid < 0 ∧ way = [a, b]) ∨ (0 ≤ e.mid ∧ ∃ w1 w2, Unp es f a e.mid.toNat w1 ∧ Unp es f e.mid.toNat b w2 ∧ way = w1 ++ w2.tail))
theorem Unp.one {es : Nat → List LE} (h : Esy es) : ∀ {f g a b : Nat} {w w' : List Nat}, Unp es f a b w → Unp es g a b w' → w = w'
  | 0, _, _, _, _, _, h1, _ => h1.elim
  | _ + 1, 0, _, _, _, _, _, h2 => h2.elim
  | f + 1, g + 1, a, b, w, w', ⟨e, he, ht, h1⟩, ⟨e', he', ht', h2⟩ => by
    have ee : e = e' := (h.ord a).one he he' (ht.trans ht'.symm)
    subst ee
    rcases h1 with ⟨_, h1⟩ | ⟨m1, u1, u2, p1, p2, p3⟩
    · rcases h2 with ⟨_, h2⟩ | ⟨m2, _⟩
      · exact h1.trans h2.symm
      · omega
    · rcases h2 with ⟨m2, _⟩ | ⟨_, v1, v2, q1, q2, q3⟩
      · omega
      · rw [p3, q3, Unp.one h p1 q1, Unp.one h p2 q2]
/-- a way over edges costs so much -/
def Prc (es : Nat → List LE) : List Nat → Int → Int → Prop
  | [], _, _ => False
  | [_], s, d => s = 0 ∧ d = 0
  | x :: y :: l, s, d => ∃ e ∈ es x, e.to = y ∧ Prc es (y :: l) (s - e.s) (d - e.d)
theorem Prc.join {es : Nat → List LE} {m : Nat} {l2 : List Nat} {s2 d2 : Int} (h2 : Prc es (m :: l2) s2 d2) : ∀ {x : Nat} {l1 : List Nat} {s1 d1 : Int}, Prc es (x :: l1) s1 d1 → (x :: l1).getLast? = some m → Prc es ((x :: l1) ++ l2) (s1 + s2) (d1 + d2)
  | x, [], s1, d1, ⟨h1, h3⟩, hl => by
    have e : x = m := by simpa using hl
    subst e
    rw [h1, h3, Int.zero_add, Int.zero_add]
    exact h2
  | x, y :: l1, s1, d1, ⟨e, he, ht, h1⟩, hl => by
    have ih := Prc.join h2 h1 (by simpa using hl)
    refine ⟨e, he, ht, ?_⟩
    rw [show s1 + s2 - e.s = s1 - e.s + s2 by omega, show d1 + d2 - e.d = d1 - e.d + d2 by omega]
    exact ih
/-- every edge can be taken apart, and costs what its way costs -/
theorem unpack {k : Nat} {st : LSt} {es0 : Nat → List LE} (h : Lrd k st) (hown : ∀ {a e}, e ∈ st.es a → e.mid < 0 → e ∈ es0 a) : ∀ (f a : Nat) (e : LE), e ∈ st.es a → min (endL (k + 1) st a) (endL (k + 1) st e.to) ≤ f →
    ∃ way l, Unp st.es f a e.to way ∧ way = a :: l ∧ l ≠ [] ∧ way.getLast? = some e.to ∧ Prc es0 way e.s e.d
  | 0, a, e, _, hf => by
    have h1 := (h.end_le a).1
    have h2 := (h.end_le e.to).1
    omega
  | f + 1, a, e, he, hf => by
    by_cases hm : e.mid < 0
    · exact ⟨[a, e.to], [e.to], ⟨e, he, rfl, Or.inl ⟨hm, rfl⟩⟩, rfl, by simp, rfl, ⟨e, hown he hm, rfl, by omega, by omega⟩⟩
    · have hm : 0 ≤ e.mid := by omega
      obtain ⟨g1, g2⟩ := h.end_mid he hm
      obtain ⟨e1, f1, f2, e2, f3, f4, f5, f6⟩ := h.sum he hm
      obtain ⟨w1, l1, a1, a2, a3, a4, a5⟩ := unpack h hown f a e1 f1 (by rw [f2]; omega)
      obtain ⟨w2, l2, b1, b2, b3, b4, b5⟩ := unpack h hown f e.mid.toNat e2 f3 (by rw [f4]; omega)
      rw [f2] at a1 a4
      rw [f4] at b1 b4
      subst a2 b2
      refine ⟨(a :: l1) ++ l2, l1 ++ l2, ⟨e, he, rfl, Or.inr ⟨hm, _, _, a1, b1, rfl⟩⟩, rfl, fun h => a3 (List.append_eq_nil_iff.1 h).1, ?_, ?_⟩
      · rw [List.getLast?_append]
        cases l2 with
        | nil => exact absurd rfl b3
        | cons y l2 =>
          have : (y :: l2).getLast? = some e.to := by simpa using b4
          rw [this]; rfl
      · rw [f5, f6]
        exact Prc.join b5 a5 a4
end Go.Proofs.YtmnpplkjhnoglaaGreatDoor
