/-
  Texts laid together: LevU, LevP, LevQ.
-/
import Derived.Test.YtmnpplkjhnoglaaGreatDoorP3
/-
  Edges that were added, taken apart: the way over the graph's own edges, which costs the same. (For levels.)
-/
namespace Go.Proofs.YtmnpplkjhnoglaaGreatDoor

/-- what leads over nothing is the graph's own -/
theorem Turn.own {top n : Nat} {st st' : LSt} {nr nr' : Nat → Bool} {g : Bool} (h : Turn top n st nr st' nr' g) (hE : Esy st.es) {a : Nat} {e : LE} (he : e ∈ st'.es a) (hm : e.mid < 0) : e ∈ st.es a := by
  rcases h with ⟨_, rfl, _⟩ | ⟨_, p, _, ⟨_, rfl, _⟩ | ⟨_, rfl, _⟩⟩
  · exact he
  · exact he
  · have hfe := fun {x : Nat × LE} (hx : x ∈ moreF p n (feF st n)) => moreF_mem (feF_ord (hE.ord n)) hx
    have hne : ∀ x ∈ moreF p n (feF st n), x.1 ≠ x.2.to := fun x hx => by
      obtain ⟨a, _, b, _, h3, _, rfl⟩ := hfe hx
      exact Nat.ne_of_lt h3
    rcases (layAll_mem hE hne).2 a e he with h | ⟨x, hx, h⟩
    · exact h
    · obtain ⟨u, _, v, _, _, _, rfl⟩ := hfe hx
      rcases h with ⟨_, rfl⟩ | ⟨_, rfl⟩
      · exact absurd hm (show ¬ ((n : Nat) : Int) < 0 by omega)
      · exact absurd hm (show ¬ ((n : Nat) : Int) < 0 by omega)
theorem Rnd.own {t : Nat} : ∀ {L : List Nat} {st st' : LSt} {nr nr' : Nat → Bool} {g : Bool}, Rnd t L st nr st' nr' g → Esy st.es → ∀ {a : Nat} {e : LE}, e ∈ st'.es a → e.mid < 0 → e ∈ st.es a
  | [], _, _, _, _, _, ⟨h, _⟩, _, _, _, he, _ => by rw [← h]; exact he
  | _ :: _, _, _, _, _, _, ⟨_, _, _, _, h1, h2, _⟩, hE, _, _, he, hm => h1.own hE (h2.own (h1.esy hE) he hm) hm
theorem Rds.own {most : Nat} {L : List Nat} {st0 : LSt} (h0 : Lrd 0 st0) : ∀ {k : Nat} {st : LSt}, Rds most L st0 k st → ∀ {a : Nat} {e : LE}, e ∈ st.es a → e.mid < 0 → e ∈ st0.es a
  | 0, st, h, _, _, he, _ => by
    have e : st = st0 := h
    rw [← e]; exact he
  | _ + 1, _, ⟨_, _, h1, _, h2⟩, _, _, he, hm => Rds.own h0 h1 (h2.own (Lrd.rds h0 h1).esy he hm) hm

/-- the way of an edge, taken apart at most so deep -/
def Unp (es : Nat → List LE) : Nat → Nat → Nat → List Nat → Prop
  | 0, _, _, _ => False
  | f + 1, a, b, way => ∃ e ∈ es a, e.to = b ∧ ((e.mid < 0 ∧ way = [a, b]) ∨ (0 ≤ e.mid ∧ ∃ w1 w2, Unp es f a e.mid.toNat w1 ∧ Unp es f e.mid.toNat b w2 ∧ way = w1 ++ w2.tail))
/-- a way over edges costs so much -/
def Prc (es : Nat → List LE) : List Nat → Int → Int → Prop
  | [], _, _ => False
  | [_], s, d => s = 0 ∧ d = 0
  | x :: y :: l, s, d => ∃ e ∈ es x, e.to = y ∧ Prc es (y :: l) (s - e.s) (d - e.d)
theorem Prc.join {es : Nat → List LE} {m : Nat} {l2 : List Nat} {s2 d2 : Int} (h2 : Prc es (m :: l2) s2 d2) : ∀ {x : Nat} {l1 : List Nat} {s1 d1 : Int}, Prc es (x :: l1) s1 d1 → (x :: l1).getLast? = some m → Prc es ((x :: l1) ++ l2) (s1 + s2) (d1 + d2)
  | x, [], s1, d1, ⟨h1, h3⟩, hl => by
    have e : x = m := by simpa using hl
    subst e
    rw [h1, h3, Int.zero_add, Int.zero_add]
    exact h2
  | x, y :: l1, s1, d1, ⟨e, he, ht, h1⟩, hl => by
    have ih := Prc.join h2 h1 (by simpa using hl)
    refine ⟨e, he, ht, ?_⟩
    rw [show s1 + s2 - e.s = s1 - e.s + s2 by omega, show d1 + d2 - e.d = d1 - e.d + d2 by omega]
    exact ih
/-- every edge can be taken apart, and costs what its way costs -/
theorem unpack {k : Nat} {st : LSt} {es0 : Nat → List LE} (h : Lrd k st) (hown : ∀ {a e}, e ∈ st.es a → e.mid < 0 → e ∈ es0 a) : ∀ (f a : Nat) (e : LE), e ∈ st.es a → min (endL (k + 1) st a) (endL (k + 1) st e.to) ≤ f →
    ∃ way l, Unp st.es f a e.to way ∧ way = a :: l ∧ l ≠ [] ∧ way.getLast? = some e.to ∧ Prc es0 way e.s e.d
  | 0, a, e, _, hf => by
    have h1 := (h.end_le a).1
    have h2 := (h.end_le e.to).1
    omega
  | f + 1, a, e, he, hf => by
    by_cases hm : e.mid < 0
    · exact ⟨[a, e.to], [e.to], ⟨e, he, rfl, Or.inl ⟨hm, rfl⟩⟩, rfl, by simp, rfl, ⟨e, hown he hm, rfl, by omega, by omega⟩⟩
    · have hm : 0 ≤ e.mid := by omega
      obtain ⟨g1, g2⟩ := h.end_mid he hm
      obtain ⟨e1, f1, f2, e2, f3, f4, f5, f6⟩ := h.sum he hm
      obtain ⟨w1, l1, a1, a2, a3, a4, a5⟩ := unpack h hown f a e1 f1 (by rw [f2]; omega)
      obtain ⟨w2, l2, b1, b2, b3, b4, b5⟩ := unpack h hown f e.mid.toNat e2 f3 (by rw [f4]; omega)
      rw [f2] at a1 a4
      rw [f4] at b1 b4
      subst a2 b2
      refine ⟨(a :: l1) ++ l2, l1 ++ l2, ⟨e, he, rfl, Or.inr ⟨hm, _, _, a1, b1, rfl⟩⟩, rfl, fun h => a3 (List.append_eq_nil_iff.1 h).1, ?_, ?_⟩
      · rw [List.getLast?_append]
        cases l2 with
        | nil => exact absurd rfl b3
        | cons y l2 =>
          have : (y :: l2).getLast? = some e.to := by simpa using b4
          rw [this]; rfl
      · rw [f5, f6]
        exact Prc.join b5 a5 a4
end Go.Proofs.YtmnpplkjhnoglaaGreatDoor
/-
  A corner that gets its level takes no way from the others: what was between them costs no more behind it. (For levels and search.)
-/
namespace Go.Proofs.YtmnpplkjhnoglaaGreatDoor

end Go.Proofs.YtmnpplkjhnoglaaGreatDoor
/-
  Ways between corners that have no level yet cost no more behind a turn. (For levels and search.)
-/
namespace Go.Proofs.YtmnpplkjhnoglaaGreatDoor

theorem val_both (s d t u : Int) : val (s + t) (d + u) = val s d + val t u := by unfold val; omega
section
variable {top n : Nat} {st st' : LSt} {nr nr' : Nat → Bool}
end
end Go.Proofs.YtmnpplkjhnoglaaGreatDoor
