/-
  Texts laid together: TurnP, GraphM, WayM.
-/
import Derived.Test.YtmnpplkjhnoglaaGreatDoorP16
/-
  Ways turn at corners: two cells that are farther than if nothing were in the way have a corner on a shortest way.
-/
namespace Go.Proofs.YtmnpplkjhnoglaaGreatDoor

variable {W H : Int} {bl : Nat → Bool} {a b : Int} {F G : Int → Option (Int × Int)}

theorem Wk.join {E : Int → Nat → Int → Prop} {a p q s d t u : Int} (h : Wk E a p s d) (k : Wk E p q t u) : Wk E a q (s + t) (d + u) := by
  refine k.ind (R := fun q t u => Wk E a q (s + t) (d + u)) (by simpa using h) (fun x t u k y _ ih e => ?_)
  have := ih.step e
  rw [Int.add_assoc, Int.add_assoc] at this
  exact this
/-- where a step leads -/
theorem Edge.place (w1 : 1 ≤ W) {p r : Int} {k : Nat} (e : Edge W H bl p k r) : r % W = p % W + stepX k ∧ r / W = p / W + stepY k := by
  obtain ⟨_, _, h3, h4⟩ := e
  obtain ⟨_, o2, _, _⟩ := may_parts h3
  obtain ⟨a1, a2, a3, a4⟩ := open_in o2
  have e : p + (stepY k * W + stepX k) = (p / W + stepY k) * W + (p % W + stepX k) := by
    have := cell_eq W p
    rw [Int.add_mul]
    omega
  obtain ⟨p1, p2, p3⟩ := place_to (H := H) w1 a1 a2 a3 a4
  rw [h4, e, p2, p3]
  exact ⟨rfl, rfl⟩

end Go.Proofs.YtmnpplkjhnoglaaGreatDoor
/-
  Corners are enough: between two corners there is a chain of corners, each directly near the next, that costs what the shortest way costs.
-/
namespace Go.Proofs.YtmnpplkjhnoglaaGreatDoor

/-- what it costs between two cells if nothing is in the way -/
def octS (W a b : Int) : Int := dst (dst (a % W) (b % W)) (dst (a / W) (b / W))
def octD (W a b : Int) : Int := les (dst (a % W) (b % W)) (dst (a / W) (b / W))
/-- is a cell a corner? -/
def CornC (W H : Int) (bl : Nat → Bool) (c : Int) : Prop := Corn W H bl (c % W) (c / W)
variable {W H : Int} {bl : Nat → Bool} {Fl : Int → Int → Option (Int × Int)}

end Go.Proofs.YtmnpplkjhnoglaaGreatDoor
/-
  Steps on ways that cost as if nothing were in the way: at each place at most one straight step and at most one diagonal step brings one nearer by what it costs.
-/
namespace Go.Proofs.YtmnpplkjhnoglaaGreatDoor

/-- a step from (x, y) that is not lost on the way to (u, v) -/
def Good (x y u v : Int) (k : Nat) : Prop :=
  dst (dst (x + stepX k) u) (dst (y + stepY k) v) + stS k = dst (dst x u) (dst y v) ∧ les (dst (x + stepX k) u) (dst (y + stepY k) v) + stD k = les (dst x u) (dst y v)

end Go.Proofs.YtmnpplkjhnoglaaGreatDoor
