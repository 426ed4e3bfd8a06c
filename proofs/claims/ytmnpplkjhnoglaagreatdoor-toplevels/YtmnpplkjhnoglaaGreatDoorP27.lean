/-
  Texts laid together: LevB, LvA.
-/
import Derived.Test.YtmnpplkjhnoglaaGreatDoorP26
/-
  What levels' edges cost at most, and where they lead. (For levels.)
-/
namespace Go.Proofs.YtmnpplkjhnoglaaGreatDoor

/-- edges lead from corners to corners; what has a level is one -/
structure Cor (L : List Nat) (st : LSt) : Prop where
  ends : ∀ {a e}, e ∈ st.es a → a ∈ L ∧ e.to ∈ L
  lev : ∀ {n}, 0 < st.lev n → n ∈ L
/-- while the round of level t goes on: what was there before it costs no more than K, what it adds twice that -/
structure Bdd (t : Nat) (K : Int) (st : LSt) : Prop where
  pos : ∀ {a e}, e ∈ st.es a → 0 ≤ e.s ∧ 0 ≤ e.d
  old : ∀ {a e}, e ∈ st.es a → (e.mid < 0 ∨ st.lev e.mid.toNat ≠ t) → e.s ≤ K ∧ e.d ≤ K
  new : ∀ {a e}, e ∈ st.es a → e.s ≤ 2 * K ∧ e.d ≤ 2 * K
section
variable {t n : Nat} {K : Int} {L : List Nat} {st st' : LSt} {nr nr' : Nat → Bool} {g : Bool}
/-- what a turn's edges are -/
theorem Turn.split (hE : Esy st.es) (h : Turn t n st nr st' nr' g) {k : Nat} {e : LE} (he : e ∈ st'.es k) :
    e ∈ st.es k ∨ (st.lev n = 0 ∧ nr n = false ∧ st'.lev n = t ∧ e.mid = n ∧ ∃ e1 ∈ st.es n, e1.to = k ∧ ∃ e2 ∈ st.es n, e2.to = e.to ∧ e.s = e1.s + e2.s ∧ e.d = e1.d + e2.d) := by
  rcases h with ⟨_, rfl, _⟩ | ⟨hn, p, _, ⟨_, rfl, _⟩ | ⟨_, rfl, _⟩⟩
  · exact Or.inl he
  · exact Or.inl he
  · have hfe := fun {x : Nat × LE} (hx : x ∈ moreF p n (feF st n)) => moreF_mem (feF_ord (hE.ord n)) hx
    have hne : ∀ x ∈ moreF p n (feF st n), x.1 ≠ x.2.to := fun x hx => by
      obtain ⟨a, _, b, _, h3, _, rfl⟩ := hfe hx
      exact Nat.ne_of_lt h3
    have hn0 : st.lev n = 0 := by
      rcases Nat.eq_zero_or_pos (st.lev n) with h | h
      · exact h
      · exact absurd (Or.inl h) hn
    have hnn : nr n = false := by
      cases h : nr n with
      | false => rfl
      | true => exact absurd (Or.inr h) hn
    rcases (layAll_mem hE hne).2 k e he with h | ⟨x, hx, h⟩
    · exact Or.inl h
    · obtain ⟨a, ha, b, hb, _, _, rfl⟩ := hfe hx
      have ha' := (feF_mem.1 ha).1
      have hb' := (feF_mem.1 hb).1
      right
      rcases h with ⟨rfl, rfl⟩ | ⟨rfl, rfl⟩
      · exact ⟨hn0, hnn, if_pos rfl, rfl, a, ha', rfl, b, hb', rfl, rfl, rfl⟩
      · exact ⟨hn0, hnn, if_pos rfl, rfl, b, hb', rfl, a, ha', rfl, Int.add_comm _ _, Int.add_comm _ _⟩
theorem Turn.lev (h : Turn t n st nr st' nr' g) (k : Nat) : st'.lev k = st.lev k ∨ (k = n ∧ st'.lev k = t) := by
  rcases h with ⟨_, rfl, _⟩ | ⟨hn, p, _, ⟨_, rfl, _⟩ | ⟨_, rfl, _⟩⟩
  · exact Or.inl rfl
  · exact Or.inl rfl
  · by_cases e : k = n
    · exact Or.inr ⟨e, if_pos e⟩
    · exact Or.inl (if_neg e)
theorem Cor.turn (hE : Esy st.es) (C : Cor L st) (hn : n ∈ L) (h : Turn t n st nr st' nr' g) : Cor L st' := by
  refine ⟨fun {a e} he => ?_, fun {k} hk => ?_⟩
  · rcases h.split hE he with h1 | ⟨_, _, _, _, e1, f1, f2, e2, f3, f4, _⟩
    · exact C.ends h1
    · exact ⟨by rw [← f2]; exact (C.ends f1).2, by rw [← f4]; exact (C.ends f3).2⟩
  · rcases h.lev k with h1 | ⟨rfl, _⟩
    · rw [h1] at hk; exact C.lev hk
    · exact hn
theorem Bdd.turn (I : Lin t st nr) (_h0 : 0 ≤ K) (B : Bdd t K st) (h : Turn t n st nr st' nr' g) : Bdd t K st' := by
  have hsum : ∀ {k e}, e ∈ st'.es k → e ∈ st.es k ∨ (st'.lev n = t ∧ e.mid = n ∧ 0 ≤ e.s ∧ 0 ≤ e.d ∧ e.s ≤ 2 * K ∧ e.d ≤ 2 * K) := fun {k e} he => by
    rcases h.split I.esy he with h1 | ⟨h2, h3, h4, h5, e1, f1, _, e2, f3, _, f5, f6⟩
    · exact Or.inl h1
    · have key : ∀ {x : LE}, x ∈ st.es n → 0 ≤ x.s ∧ 0 ≤ x.d ∧ x.s ≤ K ∧ x.d ≤ K := fun {x} hx => by
        obtain ⟨p1, p2⟩ := B.pos hx
        have hold : x.mid < 0 ∨ st.lev x.mid.toNat ≠ t := by
          by_cases hm : x.mid < 0
          · exact Or.inl hm
          · right; intro hl
            have := I.new hx (by omega) hl
            rw [h3] at this; cases this
        obtain ⟨q1, q2⟩ := B.old hx hold
        exact ⟨p1, p2, q1, q2⟩
      have k1 := key f1
      have k2 := key f3
      exact Or.inr ⟨h4, h5, by omega, by omega, by omega, by omega⟩
  refine ⟨fun {a e} he => ?_, fun {a e} he hm => ?_, fun {a e} he => ?_⟩
  · rcases hsum he with h1 | ⟨_, _, h2, h3, _⟩
    · exact B.pos h1
    · exact ⟨h2, h3⟩
  · rcases hsum he with h1 | ⟨h2, h3, _⟩
    · refine B.old h1 ?_
      rcases hm with hm | hm
      · exact Or.inl hm
      · by_cases h0 : e.mid < 0
        · exact Or.inl h0
        · right
          rcases h.lev e.mid.toNat with h4 | ⟨h4, h5⟩
          · rw [← h4]; exact hm
          · exact absurd h5 hm
    · rcases hm with hm | hm
      · omega
      · have e1 : e.mid.toNat = n := by omega
        rw [e1] at hm
        exact absurd h2 hm
  · rcases hsum he with h1 | ⟨_, _, _, _, h2, h3⟩
    · exact B.new h1
    · exact ⟨h2, h3⟩
end
/-- all that the turns of a round keep -/
structure All (L : List Nat) (t : Nat) (K : Int) (st : LSt) (nr : Nat → Bool) : Prop where
  lin : Lin t st nr
  cor : Cor L st
  bdd : Bdd t K st
theorem All.turn {L : List Nat} {t n : Nat} {K : Int} {st st' : LSt} {nr nr' : Nat → Bool} {g : Bool} (A : All L t K st nr) (h0 : 0 ≤ K) (hn : n ∈ L) (h : Turn t n st nr st' nr' g) : All L t K st' nr' :=
  ⟨A.lin.turn h, A.cor.turn A.lin.esy hn h, A.bdd.turn A.lin h0 h⟩
theorem All.rnd {L : List Nat} {t : Nat} {K : Int} (h0 : 0 ≤ K) : ∀ {M : List Nat} {st st' : LSt} {nr nr' : Nat → Bool} {g : Bool}, (∀ n ∈ M, n ∈ L) → All L t K st nr → Rnd t M st nr st' nr' g → All L t K st' nr'
  | [], _, _, _, _, _, _, A, ⟨h1, h2, _⟩ => by rw [h1, h2]; exact A
  | n :: _, _, _, _, _, _, hM, A, ⟨_, _, _, _, h1, h2, _⟩ => (A.turn h0 (hM n (List.mem_cons_self ..)) h1).rnd h0 (fun m hm => hM m (List.mem_cons_of_mem _ hm)) h2
/-- between rounds -/
structure Btw (L : List Nat) (k : Nat) (K : Int) (st : LSt) : Prop where
  lrd : Lrd k st
  cor : Cor L st
  bd : ∀ {a e}, e ∈ st.es a → 0 ≤ e.s ∧ 0 ≤ e.d ∧ e.s ≤ K ∧ e.d ≤ K
theorem Btw.all {L : List Nat} {k : Nat} {K : Int} {st : LSt} (_h0 : 0 ≤ K) (B : Btw L k K st) : All L (k + 1) K st (fun _ => false) :=
  ⟨B.lrd.lin, B.cor, fun he => ⟨(B.bd he).1, (B.bd he).2.1⟩, fun he _ => ⟨(B.bd he).2.2.1, (B.bd he).2.2.2⟩, fun he => by have := B.bd he; omega⟩
theorem All.btw {L : List Nat} {t : Nat} {K : Int} {st : LSt} {nr : Nat → Bool} (A : All L t K st nr) : Btw L t (2 * K) st :=
  ⟨A.lin.lrd, A.cor, fun he => ⟨(A.bdd.pos he).1, (A.bdd.pos he).2, A.bdd.new he⟩⟩
def dbl (K : Int) : Nat → Int
  | 0 => K
  | k + 1 => 2 * dbl K k
theorem dbl_nonneg {K : Int} (h : 0 ≤ K) : ∀ k, 0 ≤ dbl K k
  | 0 => h
  | k + 1 => by have := dbl_nonneg h k; show 0 ≤ 2 * dbl K k; omega
theorem Btw.rds {most : Nat} {L : List Nat} {K : Int} {st0 : LSt} (hK : 0 ≤ K) (h0 : Btw L 0 K st0) : ∀ {k : Nat} {st : LSt}, Rds most L st0 k st → Btw L k (dbl K k) st
  | 0, st, h => by
    have e : st = st0 := h
    rw [e]; exact h0
  | k + 1, _, ⟨_, _, h1, _, h2⟩ => (((Btw.rds hK h0 h1).all (dbl_nonneg hK k)).rnd (dbl_nonneg hK k) (fun _ h => h) h2).btw
end Go.Proofs.YtmnpplkjhnoglaaGreatDoor
/-
  Lists of edges as they lie in memory. (For levels.)
-/
namespace Go.Proofs.YtmnpplkjhnoglaaGreatDoor
open Go.RowKit

def leV (e : LE) : List Value := [.int .i64 (e.to : Int), .int .i64 e.s, .int .i64 e.d, .int .i64 e.mid]
def lesV (l : List LE) : List Value := l.flatMap leV
theorem lesV_cons (e : LE) (l : List LE) : lesV (e :: l) = leV e ++ lesV l := rfl
theorem lesV_app (l l' : List LE) : lesV (l ++ l') = lesV l ++ lesV l' := by
  unfold lesV
  rw [List.flatMap_append]
theorem lesV_one (e : LE) : lesV [e] = leV e := by
  unfold lesV
  rw [List.flatMap_cons, List.flatMap_nil, List.append_nil]
theorem lesV_len (l : List LE) : (lesV l).length = l.length * 4 := by
  induction l with
  | nil => rfl
  | cons n l ih => rw [lesV_cons, List.length_append, ih, List.length_cons]; show 4 + _ = _; omega
theorem lesV_cells (l : List LE) : ∀ u ∈ lesV l, u.oneCell' = true := by
  intro u hu
  unfold lesV at hu
  obtain ⟨n, _, hn⟩ := List.mem_flatMap.1 hu
  unfold leV at hn
  simp at hn
  rcases hn with rfl | rfl | rfl | rfl <;> rfl
theorem lesV_at : ∀ (l : List LE) (i : Nat) (e : LE), l[i]? = some e → (lesV l)[i * 4]? = some (.int .i64 (e.to : Int)) ∧ (lesV l)[i * 4 + 1]? = some (.int .i64 e.s) ∧ (lesV l)[i * 4 + 2]? = some (.int .i64 e.d) ∧ (lesV l)[i * 4 + 3]? = some (.int .i64 e.mid)
  | [], i, e, h => by simp at h
  | x :: l, 0, e, h => by
    simp at h; subst h
    rw [lesV_cons]
    exact ⟨rfl, rfl, rfl, rfl⟩
  | x :: l, i + 1, e, h => by
    have ih := lesV_at l i e (by simpa using h)
    have hl : (leV x).length = 4 := rfl
    have key : ∀ k, (lesV (x :: l))[(i + 1) * 4 + k]? = (lesV l)[i * 4 + k]? := fun k => by
      rw [lesV_cons, List.getElem?_append_right (by rw [hl]; omega), hl]
      congr 1; omega
    exact ⟨(key 0).trans ih.1, (key 1).trans ih.2.1, (key 2).trans ih.2.2.1, (key 3).trans ih.2.2.2⟩

/-- a list of edges that can be read -/
def RowL (w : World) (A : Option Addr) (l : List LE) : Prop := ∀ (i : Nat) (e : LE), l[i]? = some e → ∃ b o, A = some ⟨b, o, none⟩ ∧ w.cell? ⟨b, o + i * 4, none⟩ = some (.int .i64 (e.to : Int)) ∧ w.cell? ⟨b, o + i * 4 + 1, none⟩ = some (.int .i64 e.s) ∧ w.cell? ⟨b, o + i * 4 + 2, none⟩ = some (.int .i64 e.d) ∧ w.cell? ⟨b, o + i * 4 + 3, none⟩ = some (.int .i64 e.mid)
section
variable {w w' : World} {A : Option Addr} {l : List LE}
theorem RowL.keep {F : Nat → Prop} (h : RowL w A l) (K : Keep F w w') (hF : ∀ b o, A = some ⟨b, o, none⟩ → ¬ F b) : RowL w' A l := fun i e hi => by
  obtain ⟨b, o, e0, h1, h2, h3, h4⟩ := h i e hi
  have hb := hF b o e0
  exact ⟨b, o, e0, K.cellOf h1 hb, K.cellOf h2 hb, K.cellOf h3 hb, K.cellOf h4 hb⟩
theorem RowL.below (h : RowL w A l) (hb : Below w.heap.size w w') : RowL w' A l := h.keep (F := fun _ => False) (Keep.of_below hb) (fun _ _ _ => id)
theorem RowL.nil (w : World) (A : Option Addr) : RowL w A [] := fun i e h => by simp at h
theorem RowL.lt (h : RowL w A l) (hl : 0 < l.length) : ∃ b o, A = some ⟨b, o, none⟩ ∧ b < w.heap.size := by
  obtain ⟨b, o, e0, h1, _⟩ := h 0 l[0] (by simp)
  exact ⟨b, o, e0, World.block_lt_of_cell? _ _ h1⟩
/-- behind some -/
theorem RowL.drop {b o : Nat} (h : RowL w (some ⟨b, o, none⟩) l) (k : Nat) : RowL w (some ⟨b, o + k * 4, none⟩) (l.drop k) := fun i e hi => by
  rw [List.getElem?_drop] at hi
  obtain ⟨b', o', e0, h1, h2, h3, h4⟩ := h (k + i) e hi
  cases e0
  refine ⟨b, o + k * 4, rfl, ?_, ?_, ?_, ?_⟩
  · rw [show o + k * 4 + i * 4 = o + (k + i) * 4 by omega]; exact h1
  · rw [show o + k * 4 + i * 4 + 1 = o + (k + i) * 4 + 1 by omega]; exact h2
  · rw [show o + k * 4 + i * 4 + 2 = o + (k + i) * 4 + 2 by omega]; exact h3
  · rw [show o + k * 4 + i * 4 + 3 = o + (k + i) * 4 + 3 by omega]; exact h4
theorem rowL_of {base : Nat} {v : Value} (h : w.ownsRow base 67 4 v l.length (lesV l)) : ∃ A cap, v = .slice A l.length cap ∧ RowL w A l ∧ ((A = none ∧ l = []) ∨ ∃ g, A = some ⟨g, 0, none⟩ ∧ v.ownBlock = some g ∧ base ≤ g ∧ g < w.heap.size) := by
  rcases h.2 with ⟨rfl, h0⟩ | ⟨g, cap, cur, rfl, hb, hg, _⟩
  · have e : l = [] := List.length_eq_zero_iff.1 h0
    subst e
    exact ⟨none, 0, rfl, RowL.nil _ _, Or.inl ⟨rfl, rfl⟩⟩
  · refine ⟨_, _, rfl, fun i e hi => ?_, Or.inr ⟨g, rfl, rfl, hb, (Array.getElem?_eq_some_iff.1 hg).1⟩⟩
    obtain ⟨e0, e1, e2, e3⟩ := lesV_at l i e hi
    have hi' : i < l.length := (List.getElem?_eq_some_iff.1 hi).1
    refine ⟨g, 0, rfl, ?_, ?_, ?_, ?_⟩
    · rw [Nat.zero_add]; exact (h.cellAt _ (by omega)).trans e0
    · rw [Nat.zero_add]; exact (h.cellAt _ (by omega)).trans e1
    · rw [Nat.zero_add]; exact (h.cellAt _ (by omega)).trans e2
    · rw [Nat.zero_add]; exact (h.cellAt _ (by omega)).trans e3
end
/-- those of the first k that fit -/
def pickL (p : LE → Bool) (l : List LE) (k : Nat) : List LE := (l.take k).filter p
theorem pickL_no {p : LE → Bool} {l : List LE} {k : Nat} {e : LE} (h : l[k]? = some e) (hp : p e = false) : pickL p l (k + 1) = pickL p l k := by
  unfold pickL
  rw [List.take_add_one, h, List.filter_append]
  simp [hp]
theorem pickL_yes {p : LE → Bool} {l : List LE} {k : Nat} {e : LE} (h : l[k]? = some e) (hp : p e = true) : pickL p l (k + 1) = pickL p l k ++ [e] := by
  unfold pickL
  rw [List.take_add_one, h, List.filter_append]
  simp [hp]
theorem pickL_len {p : LE → Bool} {l : List LE} {k : Nat} : (pickL p l k).length ≤ l.length :=
  Nat.le_trans (List.length_filter_le _ _) (by rw [List.length_take]; omega)
theorem pickL_all {p : LE → Bool} {l : List LE} : pickL p l l.length = l.filter p := by
  unfold pickL
  rw [List.take_length]
end Go.Proofs.YtmnpplkjhnoglaaGreatDoor
