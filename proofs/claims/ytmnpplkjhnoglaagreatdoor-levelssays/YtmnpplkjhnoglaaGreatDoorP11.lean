/-
  Texts laid together: SrS, SrE, SrP.
-/
import Derived.Test.YtmnpplkjhnoglaaGreatDoorP10
/-
  A search over levels from one end, as states: what corners cost, by which one they were come to, which wait. (For search.)
-/
namespace Go.Proofs.YtmnpplkjhnoglaaGreatDoor

/-- what is known from one end on: costs, the corner ahead, those that wait -/
structure SS where
  F : Int → Option (Int × Int)
  A : Int → Option Int
  H : Int → Option (Int × Int)
theorem pushB_iff {F : Int → Option (Int × Int)} {a s d : Int} : pushB F a s d = true ↔ ∀ s' d', F a = some (s', d') → val s d < val s' d' := by
  unfold pushB
  cases h : F a with
  | none => exact ⟨fun _ _ _ e => (by cases e), fun _ => rfl⟩
  | some c =>
    constructor
    · intro h1 s' d' e
      cases e
      exact of_decide_eq_true h1
    · intro h1
      exact decide_eq_true (h1 c.1 c.2 rfl)
theorem pushB_no {F : Int → Option (Int × Int)} {a s d : Int} (h : pushB F a s d = false) : ∃ s' d', F a = some (s', d') ∧ val s' d' ≤ val s d := by
  unfold pushB at h
  cases h1 : F a with
  | none => rw [h1] at h; cases h
  | some c =>
    rw [h1] at h
    have := of_decide_eq_false h
    exact ⟨c.1, c.2, rfl, by omega⟩
section
variable {L : List Nat} {lv : LSt} {r : Nat} {g : Int → Int × Int} {src src' : Int → Int → Int → Prop} {P : Int → Int → Prop} {D : Int → Prop} {x : SS}
theorem cnt_grow (F : Int → Option (Int × Int)) {b s d : Int} (h0 : 0 ≤ b) (h1 : b < 256) : cnt F 256 ≤ cnt (putH F b s d) 256 ∧ (F b = none → cnt (putH F b s d) 256 = cnt F 256 + 1) := by
  constructor
  · cases e : F b with
    | none => rw [cnt_put F b s d 256 h0 h1 e]; omega
    | some c => rw [cntG_again F b s d 256 (by rw [e]; rfl)]; exact Nat.le_refl _
  · exact cnt_put F b s d 256 h0 h1
end
end Go.Proofs.YtmnpplkjhnoglaaGreatDoor
/-
  The search from both ends, as states: it ends with what costs least. (For search.)
-/
namespace Go.Proofs.YtmnpplkjhnoglaaGreatDoor

/-- where both ends meet, and what that costs -/
structure Mt where
  n : Int
  s : Int
  d : Int
  f : Bool
section
variable {L : List Nat} {lv : LSt} {r : Nat} {g : Int → Int × Int} {src src2 : Int → Int → Int → Prop} {x x' : SS}
variable {E : Int → Option (Int × Int)} {m m' : Mt}
end
end Go.Proofs.YtmnpplkjhnoglaaGreatDoor
/-
  The way that is told: back from where both ends meet, joined, edges of levels taken apart. (For search.)
-/
namespace Go.Proofs.YtmnpplkjhnoglaaGreatDoor

section
variable {L : List Nat} {lv : LSt} {r : Nat} {g : Int → Int × Int} {src src2 : Int → Int → Int → Prop} {P : Int → Int → Prop} {x : SS}
end
/-- edges from an end that lead to corners, at costs that may be -/
structure IE where
  to : Int
  s : Int
  d : Int
  mid : Int
def okE (L : List Nat) (e : IE) : Prop := (0 ≤ e.to ∧ e.to.toNat ∈ L) ∧ 0 ≤ e.s ∧ e.s ≤ 1048576 ∧ 0 ≤ e.d ∧ e.d ≤ 1048576
def srcE (L : List Nat) (l : List IE) (o s d : Int) : Prop := ∃ e ∈ l, okE L e ∧ o = e.to ∧ s = e.s ∧ d = e.d
section
variable {L : List Nat} {lv : LSt} {r : Nat} {g : Int → Int × Int} {l : List IE} {x : SS}
end
end Go.Proofs.YtmnpplkjhnoglaaGreatDoor
