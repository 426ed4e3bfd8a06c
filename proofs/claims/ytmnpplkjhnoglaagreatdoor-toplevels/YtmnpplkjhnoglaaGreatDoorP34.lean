/-
  Texts laid together: PushAll, LevD.
-/
import Derived.Test.YtmnpplkjhnoglaaGreatDoorP33
/-
  Pushing, in one word for all cases.
-/
namespace Go.Proofs.YtmnpplkjhnoglaaGreatDoor
open Go.RowKit

/-- does a push change the heap? -/
def pushB (H : Int → Option (Int × Int)) (a s d : Int) : Bool := match H a with | none => true | some c => decide (val s d < val c.1 c.2)
/-- what is there behind a push -/
def pushH (H : Int → Option (Int × Int)) (a s d : Int) : Int → Option (Int × Int) := if pushB H a s d then putH H a s d else H

theorem pushed (H : Int → Option (Int × Int)) (a s d : Int) : Pushed H a s d (pushH H a s d) := by
  unfold Pushed pushH pushB
  cases ha : H a with
  | none => left; exact ⟨rfl, fun h => (by cases h)⟩
  | some c =>
    obtain ⟨t, u⟩ := c
    by_cases hv : val s d < val t u
    · left
      refine ⟨by simp [hv], fun h => ?_⟩
      cases h; exact hv
    · right
      exact ⟨by simp [hv], t, u, rfl, by omega⟩

/-- a heap that has become this one -/
def HeapTo (w w' : World) (b mb : Nat) (v : Value) (n : Nat) (H : Int → Option (Int × Int)) : Prop :=
  ∃ v' n', HeapAt w' b mb v' n' H ∧ n' ≤ n + 1 ∧ ∀ g, v'.ownBlock = some g → v.ownBlock = some g ∨ w.heap.size ≤ g

theorem push_all {b mb n : Nat} {v : Value} {H : Int → Option (Int × Int)} (a s d : Int) (w : World) (h : HeapAt w b mb v n H) (hc : okC s d) (hwf : (Lit.int .i64 a).wf = true) (hn : n < 1000000) :
    Calls Tryz.prog 129 #[.pointer (some ⟨b, 0, none⟩), .int .i64 a, .agg #[.int .i64 s, .int .i64 d]] w fun e w' => e = .returned (.bool (pushB H a s d)) ∧ HeapTo w w' b mb v n (pushH H a s d) ∧ Keep (hb3 b mb v) w w' := by
  cases ha : H a with
  | none =>
    have e1 : pushB H a s d = true := by unfold pushB; rw [ha]
    have e2 : pushH H a s d = putH H a s d := by unfold pushH; rw [e1]; rfl
    rw [e1, e2]
    exact (push_new a s d w h ha hc hwf hn).mono fun e w' ⟨he, ⟨v', h', hl⟩, K⟩ => ⟨he, ⟨v', n + 1, h', Nat.le_refl _, fun g hg => by
      rcases hl with hl | ⟨g', hl, hg'⟩
      · exact Or.inl (by rw [← hl]; exact hg)
      · rw [hl] at hg; cases hg; exact Or.inr hg'⟩, K⟩
  | some c =>
    obtain ⟨t, u⟩ := c
    by_cases hv : val s d < val t u
    · have e1 : pushB H a s d = true := by unfold pushB; rw [ha]; exact decide_eq_true hv
      have e2 : pushH H a s d = putH H a s d := by unfold pushH; rw [e1]; rfl
      rw [e1, e2]
      exact (push_less a s d t u w h ha hc hv).mono fun e w' ⟨he, h', K⟩ => ⟨he, ⟨v, n, h', Nat.le_succ _, fun g hg => Or.inl hg⟩, K⟩
    · have e1 : pushB H a s d = false := by unfold pushB; rw [ha]; exact decide_eq_false hv
      have e2 : pushH H a s d = H := by unfold pushH; rw [e1]; rfl
      rw [e1, e2]
      exact (push_no a s d t u w h ha hc hv).mono fun e w' ⟨he, hb⟩ => ⟨he, ⟨v, n, h.below hb, Nat.le_succ _, fun g hg => Or.inl hg⟩, Keep.of_below hb⟩

theorem hb3_lt {w : World} {b mb n : Nat} {v : Value} {H : Int → Option (Int × Int)} (h : HeapAt w b mb v n H) {k : Nat} (hk : hb3 b mb v k) : k < w.heap.size := by
  obtain ⟨h1, h2, h3⟩ := h.blocks
  rcases hk with rfl | rfl | hk
  · exact h1
  · exact h2
  · exact h3 k hk
end Go.Proofs.YtmnpplkjhnoglaaGreatDoor
/-
  A search that takes the nearest one first and ends beyond a cost; labels that are bettered as long as they can be. (For levels.)
-/
namespace Go.Proofs.YtmnpplkjhnoglaaGreatDoor

/-- a search under way: known labels F, those that wait H; of which edges it has looked at D tells -/
structure Dg (Ed : Int → Int → Int → Int → Prop) (o : Int) (F H : Int → Option (Int × Int)) (D : Int → Int → Prop) : Prop where
  sF : ∀ {a s d}, F a = some (s, d) → Wg Ed o a s d
  sH : ∀ {a s d}, H a = some (s, d) → Wg Ed o a s d
  off : ∀ {a s d}, H a = some (s, d) → F a = none
  home : (∃ s d, F o = some (s, d) ∧ val s d ≤ 0) ∨ ∃ s d, H o = some (s, d) ∧ val s d ≤ 0
  mono : ∀ {a s d b t u}, F a = some (s, d) → H b = some (t, u) → val s d ≤ val t u
  edge : ∀ {a b s d t u}, F a = some (s, d) → Ed a b t u → D a b → (∃ s' d', F b = some (s', d') ∧ val s' d' ≤ val (s + t) (d + u)) ∨ ∃ s' d', H b = some (s', d') ∧ val s' d' ≤ val (s + t) (d + u)
section
variable {Ed : Int → Int → Int → Int → Prop} {o a b s d t u : Int} {F H H' : Int → Option (Int × Int)} {D D' : Int → Int → Prop}
theorem putH_at (F : Int → Option (Int × Int)) (a s d : Int) : putH F a s d a = some (s, d) := if_pos rfl
theorem putH_off (F : Int → Option (Int × Int)) {a i : Int} (s d : Int) (h : i ≠ a) : putH F a s d i = F i := if_neg h
theorem delH_at (F : Int → Option (Int × Int)) (a : Int) : delH F a a = none := if_pos rfl
theorem delH_off (F : Int → Option (Int × Int)) {a i : Int} (h : i ≠ a) : delH F a i = F i := if_neg h
theorem Dg.start (Ed : Int → Int → Int → Int → Prop) (o : Int) : Dg Ed o (fun _ => none) (putH (fun _ => none) o 0 0) (fun _ _ => True) := by
  refine ⟨fun h => (by cases h), fun {a s d} h => ?_, fun _ => rfl, Or.inr ⟨0, 0, putH_at _ _ _ _, by decide⟩, fun h => (by cases h), fun h => (by cases h)⟩
  by_cases e : a = o
  · subst e
    rw [putH_at] at h
    cases h
    exact Wg.nil
  · rw [putH_off _ _ _ e] at h; cases h
theorem Dg.pop (h : Dg Ed o F H (fun _ _ => True)) (ha : H a = some (s, d)) (hm : ∀ {b t u}, H b = some (t, u) → val s d ≤ val t u) : Dg Ed o (putH F a s d) (delH H a) (fun x _ => x ≠ a) ∧ F a = none ∧ ∀ {x t u}, putH F a s d x = some (t, u) → val t u ≤ val s d := by
  have hFa := h.off ha
  refine ⟨⟨fun {x p q} hx => ?_, fun {x p q} hx => ?_, fun {x p q} hx => ?_, ?_, fun {x p q y t u} hx hy => ?_, fun {x y p q t u} hx e hD => ?_⟩, hFa, fun {x t u} hx => ?_⟩
  · by_cases e : x = a
    · subst e; rw [putH_at] at hx; cases hx; exact h.sH ha
    · rw [putH_off _ _ _ e] at hx; exact h.sF hx
  · by_cases e : x = a
    · subst e; rw [delH_at] at hx; cases hx
    · rw [delH_off _ e] at hx; exact h.sH hx
  · by_cases e : x = a
    · subst e; rw [delH_at] at hx; cases hx
    · rw [delH_off _ e] at hx; rw [putH_off _ _ _ e]; exact h.off hx
  · rcases h.home with ⟨p, q, h1, h2⟩ | ⟨p, q, h1, h2⟩
    · left
      exact ⟨p, q, by rw [putH_off _ _ _ (fun e => by rw [e, hFa] at h1; cases h1)]; exact h1, h2⟩
    · by_cases e : o = a
      · left; subst e
        rw [ha] at h1; cases h1
        exact ⟨s, d, putH_at _ _ _ _, h2⟩
      · right; exact ⟨p, q, by rw [delH_off _ e]; exact h1, h2⟩
  · have e2 : y ≠ a := fun e => by rw [e, delH_at] at hy; cases hy
    rw [delH_off _ e2] at hy
    by_cases e : x = a
    · subst e; rw [putH_at] at hx; cases hx; exact hm hy
    · rw [putH_off _ _ _ e] at hx; exact h.mono hx hy
  · have hxa : x ≠ a := hD
    rw [putH_off _ _ _ hxa] at hx
    rcases h.edge hx e trivial with ⟨p', q', h1, h2⟩ | ⟨p', q', h1, h2⟩
    · left
      exact ⟨p', q', by rw [putH_off _ _ _ (fun e => by rw [e, hFa] at h1; cases h1)]; exact h1, h2⟩
    · by_cases e : y = a
      · left; subst e
        rw [ha] at h1; cases h1
        exact ⟨s, d, putH_at _ _ _ _, h2⟩
      · right; exact ⟨p', q', by rw [delH_off _ e]; exact h1, h2⟩
  · by_cases e : x = a
    · subst e; rw [putH_at] at hx; cases hx; exact Int.le_refl _
    · rw [putH_off _ _ _ e] at hx; exact h.mono hx ha
theorem Pushed.three (hp : Pushed H b s d H') : (∃ p q, H' b = some (p, q) ∧ val p q ≤ val s d) ∧ (∀ x p q, H x = some (p, q) → ∃ p' q', H' x = some (p', q') ∧ val p' q' ≤ val p q) ∧ ∀ x p q, H' x = some (p, q) → H x = some (p, q) ∨ (x = b ∧ p = s ∧ q = d) := by
  rcases hp with ⟨rfl, h1⟩ | ⟨rfl, t, u, h1, h2⟩
  · refine ⟨⟨s, d, putH_at _ _ _ _, Int.le_refl _⟩, fun x p q hx => ?_, fun x p q hx => ?_⟩
    · by_cases e : x = b
      · subst e
        have := h1 hx
        exact ⟨s, d, putH_at _ _ _ _, by omega⟩
      · exact ⟨p, q, by rw [putH_off _ _ _ e]; exact hx, Int.le_refl _⟩
    · by_cases e : x = b
      · subst e; rw [putH_at] at hx; cases hx; exact Or.inr ⟨rfl, rfl, rfl⟩
      · rw [putH_off _ _ _ e] at hx; exact Or.inl hx
  · exact ⟨⟨t, u, h1, h2⟩, fun x p q hx => ⟨p, q, hx, Int.le_refl _⟩, fun x p q hx => Or.inl hx⟩
theorem Dg.push (h : Dg Ed o F H D) (ha : F a = some (s, d)) (hmx : ∀ {x p q}, F x = some (p, q) → val p q ≤ val s d) (e : Ed a b t u) (hv : 0 ≤ val t u) (hb : F b = none) (hp : Pushed H b (s + t) (d + u) H') (hu : ∀ {t' u'}, Ed a b t' u' → t' = t ∧ u' = u) :
    Dg Ed o F H' (fun x y => D x y ∨ (x = a ∧ y = b)) := by
  have hadd := val_add s d t u
  have hw := (h.sF ha).step e
  have hp := hp.three
  refine ⟨h.sF, fun {x p q} hx => ?_, fun {x p q} hx => ?_, ?_, fun {x p q y p' q'} hx hy => ?_, fun {x y p q t' u'} hx e' hD => ?_⟩
  · rcases hp.2.2 x p q hx with h1 | ⟨rfl, rfl, rfl⟩
    · exact h.sH h1
    · exact hw
  · rcases hp.2.2 x p q hx with h1 | ⟨rfl, _, _⟩
    · exact h.off h1
    · exact hb
  · rcases h.home with h1 | ⟨p, q, h1, h2⟩
    · exact Or.inl h1
    · right
      obtain ⟨p', q', h3, h4⟩ := hp.2.1 o p q h1
      exact ⟨p', q', h3, by omega⟩
  · rcases hp.2.2 y p' q' hy with h1 | ⟨rfl, rfl, rfl⟩
    · exact h.mono hx h1
    · have := hmx hx; omega
  · have old : ∀ {y t' u'}, Ed x y t' u' → D x y → (∃ s' d', F y = some (s', d') ∧ val s' d' ≤ val (p + t') (q + u')) ∨ ∃ s' d', H' y = some (s', d') ∧ val s' d' ≤ val (p + t') (q + u') := fun {y t' u'} e' hD => by
      rcases h.edge hx e' hD with h1 | ⟨p', q', h1, h2⟩
      · exact Or.inl h1
      · right
        obtain ⟨p2, q2, h3, h4⟩ := hp.2.1 y p' q' h1
        exact ⟨p2, q2, h3, by omega⟩
    rcases hD with hD | ⟨rfl, rfl⟩
    · exact old e' hD
    · right
      obtain ⟨rfl, rfl⟩ := hu e'
      rw [ha] at hx; cases hx
      obtain ⟨p2, q2, h3, h4⟩ := hp.1
      exact ⟨p2, q2, h3, h4⟩
theorem Dg.pass (h : Dg Ed o F H D) (hmx : ∀ {x p q}, F x = some (p, q) → val p q ≤ val s d) (ha : F a = some (s, d)) (hD : ∀ {y t u}, Ed a y t u → D' a y → D a y ∨ (F y ≠ none ∧ 0 ≤ val t u)) (hD2 : ∀ {x y}, x ≠ a → D' x y → D x y) : Dg Ed o F H D' := by
  refine ⟨h.sF, h.sH, h.off, h.home, h.mono, fun {x y p q t' u'} hx e' hd => ?_⟩
  by_cases e : x = a
  · subst e
    rcases hD e' hd with h1 | ⟨h1, h2⟩
    · exact h.edge hx e' h1
    · left
      rw [ha] at hx; cases hx
      cases hy : F y with
      | none => exact absurd hy h1
      | some c =>
        have := hmx (x := y) (p := c.1) (q := c.2) hy
        exact ⟨c.1, c.2, rfl, by rw [val_add]; omega⟩
  · exact h.edge hx e' (hD2 e hd)
/-- all that waits is beyond a cost: what costs no more is known -/
theorem Dg.within (h : Dg Ed o F H (fun _ _ => True)) {M : Int} (hM : ∀ {b t u}, H b = some (t, u) → M < val t u) (h0 : 0 ≤ M) (hn : ∀ {a b t u}, Ed a b t u → 0 ≤ val t u) {x y : Int} (hxy : val x y ≤ M) :
    (∃ p q, Wg Ed o b p q ∧ val p q ≤ val x y) ↔ ∃ p q, F b = some (p, q) ∧ val p q ≤ val x y := by
  constructor
  · rintro ⟨p, q, hw, hv⟩
    have key : val p q ≤ M → ∃ p' q', F b = some (p', q') ∧ val p' q' ≤ val p q :=
      (hw (fun b p q => Wg Ed o b p q ∧ (val p q ≤ M → ∃ p' q', F b = some (p', q') ∧ val p' q' ≤ val p q)) ⟨Wg.nil, fun _ => by
        rcases h.home with h1 | ⟨p, q, h1, h2⟩
        · exact h1
        · have := hM h1; omega⟩ (fun a s d b t u ⟨hwa, ih⟩ e => ⟨hwa.step e, fun hle => by
        have hadd := val_add s d t u
        have hv0 := hn e
        obtain ⟨p', q', h1, h2⟩ := ih (by omega)
        have hadd2 := val_add p' q' t u
        rcases h.edge h1 e trivial with ⟨p2, q2, h3, h4⟩ | ⟨p2, q2, h3, h4⟩
        · exact ⟨p2, q2, h3, by omega⟩
        · have := hM h3; omega⟩)).2
    obtain ⟨p', q', h1, h2⟩ := key (by omega)
    exact ⟨p', q', h1, by omega⟩
  · rintro ⟨p, q, h1, h2⟩
    exact ⟨p, q, h.sF h1, h2⟩

/-- what is left to better -/
def potG (K : Nat) (B : Int → Option (Int × Int)) : Nat → Nat
  | 0 => 0
  | N + 1 => potG K B N + match B N with | some c => (val c.1 c.2).toNat | none => K
variable {B : Int → Option (Int × Int)} {K : Nat}
theorem potG_same (a s d : Int) (N : Nat) (h : (N : Int) ≤ a) : potG K (putH B a s d) N = potG K B N := by
  induction N with
  | zero => rfl
  | succ N ih =>
    unfold potG
    rw [ih (by omega)]
    have : putH B a s d N = B N := if_neg (by omega)
    rw [this]
theorem potG_put (a s d : Int) (N : Nat) (h0 : 0 ≤ a) (h : a < N) (hv : 0 ≤ val s d) (hn : B a = none → (val s d).toNat < K) (hs : ∀ s' d', B a = some (s', d') → val s d < val s' d') : potG K (putH B a s d) N < potG K B N := by
  induction N with
  | zero => omega
  | succ N ih =>
    unfold potG
    by_cases e : a = N
    · rw [potG_same a s d N (by omega)]
      have h1 : putH B a s d N = some (s, d) := if_pos e.symm
      rw [h1, ← e]
      cases hB : B a with
      | none =>
        have := hn hB
        show potG K B N + (val s d).toNat < potG K B N + K
        omega
      | some c =>
        have := hs c.1 c.2 hB
        show potG K B N + (val s d).toNat < potG K B N + (val c.1 c.2).toNat
        omega
    · have h1 : putH B a s d N = B N := if_neg (fun q => e q.symm)
      rw [h1]
      have := ih (by omega)
      omega
theorem cntG_again (F : Int → Option (Int × Int)) (a s d : Int) (N : Nat) (h : (F a).isSome = true) : cnt (putH F a s d) N = cnt F N := by
  induction N with
  | zero => rfl
  | succ N ih =>
    unfold cnt
    rw [ih]
    by_cases e : (N : Int) = a
    · have h1 : putH F a s d N = some (s, d) := if_pos e
      rw [h1, e, h]
      rfl
    · have h1 : putH F a s d N = F N := if_neg e
      rw [h1]

/-- labels under way; no edge costs more than M -/
structure Sg (Ed : Int → Int → Int → Int → Prop) (M : Nat) (o : Int) (B : Int → Option (Int × Int)) : Prop where
  snd : ∀ {x s d}, B x = some (s, d) → Wg Ed o x s d ∧ 0 ≤ s ∧ 0 ≤ d ∧ 0 ≤ x ∧ x < 256 ∧ val s d ≤ ((cnt B 256 * M : Nat) : Int)
  home : ∃ s d, B o = some (s, d) ∧ val s d ≤ 0
theorem Sg.start {M : Nat} (h0 : 0 ≤ o) (h1 : o < 256) : Sg Ed M o (putH (fun _ => none) o 0 0) := by
  refine ⟨fun {x s d} h => ?_, 0, 0, putH_at _ _ _ _, by decide⟩
  by_cases e : x = o
  · subst e
    rw [putH_at] at h
    cases h
    exact ⟨Wg.nil, Int.le_refl _, Int.le_refl _, h0, h1, by have h0 : val 0 0 = 0 := rfl; rw [h0]; omega⟩
  · rw [putH_off _ _ _ e] at h; cases h
theorem Sg.small {M : Nat} (h : Sg Ed M o B) {x s d : Int} (hx : B x = some (s, d)) : 0 ≤ s ∧ 0 ≤ d ∧ val s d ≤ ((256 * M : Nat) : Int) := by
  obtain ⟨_, h1, h2, _, _, h3⟩ := h.snd hx
  have h4 := Nat.mul_le_mul_right M (cnt_le B 256)
  exact ⟨h1, h2, by omega⟩
/-- an edge betters one -/
theorem Sg.better {M : Nat} (h : Sg Ed M o B) (ha : B a = some (s, d)) (e : Ed a b t u) (ht : 0 ≤ t) (hu : 0 ≤ u) (hm : val t u ≤ (M : Int)) (hin : 0 ≤ b ∧ b < 256)
    (hb : ∀ s' d', B b = some (s', d') → val (s + t) (d + u) < val s' d') : Sg Ed M o (putH B b (s + t) (d + u)) ∧ potG (256 * M + 1) (putH B b (s + t) (d + u)) 256 < potG (256 * M + 1) B 256 := by
  obtain ⟨a1, a2, a3, _, _, a4⟩ := h.snd ha
  have hv := val_add s d t u
  have hw := a1.step e
  have hn0 : 0 ≤ val (s + t) (d + u) := by unfold val; omega
  have hcl := cnt_le B 256
  have hce : B b = none → cnt (putH B b (s + t) (d + u)) 256 = cnt B 256 + 1 := fun e => cnt_put B b _ _ 256 hin.1 hin.2 e
  have hcs : (B b).isSome = true → cnt (putH B b (s + t) (d + u)) 256 = cnt B 256 := fun e => cntG_again B b _ _ 256 e
  have hge : cnt B 256 * M ≤ cnt (putH B b (s + t) (d + u)) 256 * M := by
    refine Nat.mul_le_mul_right M ?_
    cases hB : B b with
    | none => rw [hce hB]; omega
    | some p => rw [hcs (by rw [hB]; rfl)]; exact Nat.le_refl _
  have hnew : B b = none → val (s + t) (d + u) ≤ ((cnt (putH B b (s + t) (d + u)) 256 * M : Nat) : Int) := fun e => by
    rw [hce e, Nat.succ_mul, hv]
    omega
  refine ⟨⟨fun {x s' d'} hx => ?_, ?_⟩, potG_put b _ _ 256 hin.1 hin.2 hn0 (fun e => ?_) hb⟩
  · by_cases e : x = b
    · subst e
      rw [putH_at] at hx
      cases hx
      refine ⟨hw, by omega, by omega, hin.1, hin.2, ?_⟩
      cases hB : B x with
      | none => exact hnew hB
      | some p =>
        obtain ⟨_, _, _, _, _, b3⟩ := h.snd (s := p.1) (d := p.2) hB
        have := hb p.1 p.2 hB
        rw [hcs (by rw [hB]; rfl)]
        omega
    · rw [putH_off _ _ _ e] at hx
      obtain ⟨b1, b2, b3, b4, b5, b6⟩ := h.snd hx
      exact ⟨b1, b2, b3, b4, b5, by omega⟩
  · obtain ⟨s0, d0, h0, hv0⟩ := h.home
    by_cases e : o = b
    · exfalso
      rw [e] at h0
      have := hb s0 d0 h0
      omega
    · exact ⟨s0, d0, by rw [putH_off _ _ _ e]; exact h0, hv0⟩
  · have h5 := hnew e
    have h6 := Nat.mul_le_mul_right M (cnt_le (putH B b (s + t) (d + u)) 256)
    omega
/-- nothing is left to better -/
theorem Sg.still {M : Nat} (h : Sg Ed M o B) (hd : ∀ {a b s d t u}, B a = some (s, d) → Ed a b t u → ∃ s' d', B b = some (s', d') ∧ val s' d' ≤ val (s + t) (d + u)) : Still Ed o B :=
  ⟨h.home, fun hx => (h.snd hx).1, hd⟩
end
end Go.Proofs.YtmnpplkjhnoglaaGreatDoor
