/-
  A flood that looks anew at whatever has become nearer: what it comes to, and that it ends; no Go in sight.
-/
import Derived.Test.YtfhicijgpdpfpaaDoorFloodM
namespace Go.Proofs.YtfhicijgpdpfpaaDoor
variable {E : Int → Nat → Int → Prop} {o : Int} {N : Nat}

/-- what may still be saved -/
def pot (F : Int → Option (Int × Int)) : Nat → Int
  | 0 => 0
  | N + 1 => pot F N + (match F N with | some c => val c.1 c.2 | none => 13979748609)
/-- what one may save -/
def pot1 (c : Option (Int × Int)) : Int := match c with | some c => val c.1 c.2 | none => 13979748609
theorem pot_succ (F : Int → Option (Int × Int)) (N : Nat) : pot F (N + 1) = pot F N + pot1 (F N) := rfl
theorem pot_same (F : Int → Option (Int × Int)) (a s d : Int) (N : Nat) (h : (N : Int) ≤ a) : pot (putH F a s d) N = pot F N := by
  induction N with
  | zero => rfl
  | succ N ih =>
    rw [pot_succ, pot_succ, ih (by omega)]
    have : putH F a s d N = F N := if_neg (by omega)
    rw [this]
theorem pot_put (F : Int → Option (Int × Int)) (a s d : Int) (N : Nat) (h0 : 0 ≤ a) (h : a < N) : pot (putH F a s d) N = pot F N - pot1 (F a) + val s d := by
  induction N with
  | zero => omega
  | succ N ih =>
    rw [pot_succ, pot_succ]
    by_cases e : a = N
    · rw [pot_same F a s d N (by omega)]
      have : putH F a s d N = some (s, d) := if_pos e.symm
      rw [this, ← e]
      show _ + val s d = _
      omega
    · rw [ih (by omega)]
      have : putH F a s d N = F N := if_neg (fun q => e q.symm)
      rw [this]
      omega

/-- labels under way; ok: which edges have been looked at since their beginning's label was laid -/
structure Lab (E : Int → Nat → Int → Prop) (o : Int) (N : Nat) (F : Int → Option (Int × Int)) (ok : Int → Nat → Prop) : Prop where
  sound : ∀ {a s d}, F a = some (s, d) → Wk E o a s d ∧ val s d ≤ cnt F N * 54608393
  edge : ∀ {a b s d k}, F a = some (s, d) → E a k b → ok a k → ∃ s' d', F b = some (s', d') ∧ val s' d' ≤ val s d + val (stS k) (stD k)
  org : ∃ s d, F o = some (s, d) ∧ val s d ≤ 0
  dom : ∀ {a c}, F a = some c → 0 ≤ a ∧ a < N

theorem Lab.widen {F : Int → Option (Int × Int)} {ok ok' : Int → Nat → Prop} (h : Lab E o N F ok) (hk : ∀ {a k b s d}, F a = some (s, d) → E a k b → ok' a k → ok a k) : Lab E o N F ok' :=
  ⟨fun hx => h.sound hx, fun hx e hd => h.edge hx e (hk hx e hd), h.org, fun hx => h.dom hx⟩

theorem Lab.val_bd {F : Int → Option (Int × Int)} {ok : Int → Nat → Prop} (h : Lab E o N F ok) (hN : N ≤ 256) {a s d : Int} (ha : F a = some (s, d)) : 0 ≤ s ∧ 0 ≤ d ∧ val s d ≤ 13979748608 := by
  obtain ⟨h1, h2⟩ := h.sound ha
  obtain ⟨n1, n2⟩ := h1.nonneg
  have := cnt_le F N
  exact ⟨n1, n2, by omega⟩

theorem pot_nonneg {F : Int → Option (Int × Int)} (h : ∀ {a s d}, F a = some (s, d) → 0 ≤ val s d) (N : Nat) : 0 ≤ pot F N := by
  induction N with
  | zero => exact Int.le_refl _
  | succ N ih =>
    rw [pot_succ]
    cases hc : F N with
    | none => show 0 ≤ pot F N + 13979748609; omega
    | some c => obtain ⟨s, d⟩ := c; have := h hc; show 0 ≤ pot F N + val s d; omega

theorem Lab.pot0 {F : Int → Option (Int × Int)} {ok : Int → Nat → Prop} (h : Lab E o N F ok) : 0 ≤ pot F N :=
  pot_nonneg (fun hx => by obtain ⟨n1, n2⟩ := (h.sound hx).1.nonneg; unfold val; omega) N

theorem Lab.start (E : Int → Nat → Int → Prop) (o : Int) (N : Nat) (h0 : 0 ≤ o) (h1 : o < N) (ok : Int → Nat → Prop) (hk : ∀ k, ¬ ok o k) : Lab E o N (putH (fun _ => none) o 0 0) ok := by
  refine ⟨fun {a s d} h => ?_, fun {a b s d k} h _ hd => ?_, ⟨0, 0, if_pos rfl, by decide⟩, fun {a c} h => ?_⟩
  · unfold putH at h
    split at h
    · cases h; rename_i e; subst e
      have e0 : val 0 0 = 0 := by decide
      exact ⟨Wk.nil, by rw [e0]; omega⟩
    · cases h
  · unfold putH at h
    split at h
    · rename_i e; subst e; exact absurd hd (hk k)
    · cases h
  · unfold putH at h
    split at h
    · rename_i e; subst e; exact ⟨h0, h1⟩
    · cases h

theorem pot_start (o : Int) (N : Nat) (hN : N ≤ 256) (h0 : 0 ≤ o) (h1 : o < N) : pot (putH (fun _ => none) o 0 0) N ≤ 3578815643904 := by
  rw [pot_put _ _ _ _ _ h0 h1]
  have : ∀ n : Nat, pot (fun _ => none) n = n * 13979748609 := by
    intro n
    induction n with
    | zero => rfl
    | succ n ih => rw [pot_succ, ih]; show _ + 13979748609 = _; omega
  rw [this]
  show _ - 13979748609 + val 0 0 ≤ _
  have : val 0 0 = 0 := by decide
  omega

/-- a cell has become nearer -/
theorem Lab.nearer {F : Int → Option (Int × Int)} {pend : Int → Prop} {dn : Nat → Prop} {at' b s d : Int} {k : Nat} (hN : N ≤ 256) (h : Lab E o N F (fun a j => (¬ pend a ∧ a ≠ at') ∨ (a = at' ∧ dn j))) (ha : F at' = some (s, d)) (e : E at' k b)
    (hb0 : 0 ≤ b) (hb1 : b < N) (hb : ∀ {t u}, F b = some (t, u) → val (s + stS k) (d + stD k) < val t u) (hu : ∀ {y}, E at' k y → y = b) :
    Lab E o N (putH F b (s + stS k) (d + stD k)) (fun a j => (¬ (pend a ∨ a = b) ∧ a ≠ at') ∨ (a = at' ∧ (dn j ∨ j = k))) ∧ pot (putH F b (s + stS k) (d + stD k)) N + 1 ≤ pot F N ∧ putH F b (s + stS k) (d + stD k) at' = some (s, d) := by
  have hk := val_st k
  have hva := val_add s d (stS k) (stD k)
  have hne : b ≠ at' := by
    intro q; subst q
    have := hb ha
    omega
  have hat : putH F b (s + stS k) (d + stD k) at' = some (s, d) := by unfold putH; rw [if_neg (fun q => hne q.symm)]; exact ha
  have hcnt : cnt F N ≤ cnt (putH F b (s + stS k) (d + stD k)) N ∧ (F b = none → cnt (putH F b (s + stS k) (d + stD k)) N = cnt F N + 1) := by
    refine ⟨?_, fun q => cnt_put F b _ _ N hb0 hb1 q⟩
    cases hc : F b with
    | none => rw [cnt_put F b _ _ N hb0 hb1 hc]; omega
    | some c =>
      have : ∀ n : Nat, cnt F n ≤ cnt (putH F b (s + stS k) (d + stD k)) n := by
        intro n
        induction n with
        | zero => exact Nat.le_refl _
        | succ n ih =>
          unfold cnt
          by_cases q : (n : Int) = b
          · have : putH F b (s + stS k) (d + stD k) n = some (s + stS k, d + stD k) := if_pos q
            rw [this]; simp; split <;> omega
          · have : putH F b (s + stS k) (d + stD k) n = F n := if_neg q
            rw [this]; omega
      exact this N
  have h1 := h.sound ha
  refine ⟨⟨fun {x t u} hx => ?_, fun {x y t u j} hx ex hd => ?_, ?_, fun {x c} hx => ?_⟩, ?_, hat⟩
  · unfold putH at hx
    split at hx
    · cases hx; rename_i q; subst q
      refine ⟨Wk.step h1.1 e, ?_⟩
      cases hc : F x with
      | none => rw [hcnt.2 hc, hva]; have := h1.2; omega
      | some c =>
        obtain ⟨t, u⟩ := c
        have := hb hc
        have := (h.sound hc).2
        have := hcnt.1
        omega
    · have := h.sound hx; exact ⟨this.1, by have := this.2; have := hcnt.1; omega⟩
  · have key : ∀ {s2 d2 : Int}, F y = some (s2, d2) → val s2 d2 ≤ val t u + val (stS j) (stD j) → ∃ s' d', putH F b (s + stS k) (d + stD k) y = some (s', d') ∧ val s' d' ≤ val t u + val (stS j) (stD j) := by
      intro s2 d2 h2 h3
      by_cases q : y = b
      · subst q
        have := hb h2
        exact ⟨_, _, if_pos rfl, by omega⟩
      · exact ⟨s2, d2, by unfold putH; rw [if_neg q]; exact h2, h3⟩
    rcases hd with ⟨hd1, hd2⟩ | ⟨rfl, hd⟩
    · have q : x ≠ b := fun q => hd1 (Or.inr q)
      have hx' : F x = some (t, u) := by unfold putH at hx; rw [if_neg q] at hx; exact hx
      obtain ⟨s2, d2, h2, h3⟩ := h.edge hx' ex (Or.inl ⟨fun q2 => hd1 (Or.inl q2), hd2⟩)
      exact key h2 h3
    · rw [hat] at hx; cases hx
      rcases hd with hd | rfl
      · obtain ⟨s2, d2, h2, h3⟩ := h.edge ha ex (Or.inr ⟨rfl, hd⟩)
        exact key h2 h3
      · have := hu ex
        subst this
        exact ⟨_, _, if_pos rfl, by rw [hva]; exact Int.le_refl _⟩
  · obtain ⟨s2, d2, h2, h3⟩ := h.org
    by_cases q : o = b
    · subst q
      have := hb h2
      exact ⟨_, _, if_pos rfl, by omega⟩
    · exact ⟨s2, d2, by unfold putH; rw [if_neg q]; exact h2, h3⟩
  · unfold putH at hx
    split at hx
    · rename_i q; subst q; exact ⟨hb0, hb1⟩
    · exact h.dom hx
  · rw [pot_put F b _ _ N hb0 hb1]
    have : val (s + stS k) (d + stD k) + 1 ≤ pot1 (F b) := by
      cases hc : F b with
      | none =>
        show _ ≤ 13979748609
        have h2 := h1.2
        have h3 := hcnt.2 hc
        have h4 := cnt_le (putH F b (s + stS k) (d + stD k)) N
        rw [hva]
        omega
      | some c => obtain ⟨t, u⟩ := c; have := hb hc; show _ ≤ val t u; omega
    omega

/-- a cell has not become nearer -/
theorem Lab.asfar {F : Int → Option (Int × Int)} {pend : Int → Prop} {dn : Nat → Prop} {at' b s d t u : Int} {k : Nat} (h : Lab E o N F (fun a j => (¬ pend a ∧ a ≠ at') ∨ (a = at' ∧ dn j))) (ha : F at' = some (s, d))
    (hb : F b = some (t, u)) (hle : val t u ≤ val (s + stS k) (d + stD k)) (hu : ∀ {y}, E at' k y → y = b) :
    Lab E o N F (fun a j => (¬ pend a ∧ a ≠ at') ∨ (a = at' ∧ (dn j ∨ j = k))) := by
  refine ⟨fun hx => h.sound hx, fun {x y t' u' j} hx ex hd => ?_, h.org, fun hx => h.dom hx⟩
  rcases hd with hd | ⟨rfl, hd | rfl⟩
  · exact h.edge hx ex (Or.inl hd)
  · exact h.edge hx ex (Or.inr ⟨rfl, hd⟩)
  · rw [ha] at hx; cases hx
    have := hu ex
    subst this
    exact ⟨t, u, hb, by rw [val_add] at hle; exact hle⟩

theorem Lab.done {F : Int → Option (Int × Int)} (hN : N ≤ 256) (h : Lab E o N F (fun _ _ => True)) : Best E o F := by
  refine ⟨fun hx => (h.sound hx).1, fun {a s d} hw => ?_, fun {a s d} hx => h.val_bd hN hx⟩
  refine hw.ind (R := fun a s d => ∃ s' d', F a = some (s', d') ∧ val s' d' ≤ val s d) h.org (fun a s d k b _ ih e => ?_)
  obtain ⟨s', d', h1, h2⟩ := ih
  obtain ⟨s2, d2, h3, h4⟩ := h.edge h1 e trivial
  exact ⟨s2, d2, h3, by rw [val_add]; omega⟩
end Go.Proofs.YtfhicijgpdpfpaaDoor
