/-
  Texts laid together: ReachM, WalkF, NearM.
-/
import Derived.Test.YtmnpplkjhnoglaaGreatDoorP17
/-
  Steps towards a cell, and what is come to by them from both ends; no Go in sight.
-/
namespace Go.Proofs.YtmnpplkjhnoglaaGreatDoor

variable {W H : Int} {bl : Nat → Bool}

/-- what it costs between two cells if nothing is in the way, as one number -/
def octV (W a b : Int) : Int := val (octS W a b) (octD W a b)

theorem dst_comm (a b : Int) : dst a b = dst b a := by unfold dst; split <;> split <;> omega
theorem octS_comm (W a b : Int) : octS W a b = octS W b a := by unfold octS; rw [dst_comm (a % W), dst_comm (a / W)]
theorem octD_comm (W a b : Int) : octD W a b = octD W b a := by unfold octD; rw [dst_comm (a % W), dst_comm (a / W)]
theorem octV_comm (W a b : Int) : octV W a b = octV W b a := by unfold octV; rw [octS_comm, octD_comm]
theorem dst_self (a : Int) : dst a a = 0 := by unfold dst; split <;> omega
theorem octS_self (W a : Int) : octS W a a = 0 := by unfold octS; rw [dst_self, dst_self]; rfl
theorem octD_self (W a : Int) : octD W a a = 0 := by unfold octD; rw [dst_self, dst_self]; rfl
theorem dst_nonneg (a b : Int) : 0 ≤ dst a b := by unfold dst; split <;> omega
theorem octS_nonneg (W a b : Int) : 0 ≤ octS W a b := dst_nonneg _ _
theorem octD_nonneg (W a b : Int) : 0 ≤ octD W a b := by
  unfold octD les
  have := dst_nonneg (a % W) (b % W)
  have := dst_nonneg (a / W) (b / W)
  split <;> omega
theorem val_nonneg {s d : Int} (h : 0 ≤ s) (k : 0 ≤ d) : 0 ≤ val s d := by unfold val; omega

/-- two linear bounds whose greater one it is -/
theorem oct_lin (X Y : Int) : 38613965 * X + 15994428 * Y ≤ val (dst X Y) (les X Y) ∧ 38613965 * Y + 15994428 * X ≤ val (dst X Y) (les X Y) ∧ (val (dst X Y) (les X Y) = 38613965 * X + 15994428 * Y ∨ val (dst X Y) (les X Y) = 38613965 * Y + 15994428 * X) := by
  unfold val dst les
  split <;> omega
theorem dst_tri (a b c : Int) : dst a c ≤ dst a b + dst b c := by unfold dst; split <;> split <;> split <;> omega
theorem oct_tri (W a b c : Int) : octV W a c ≤ octV W a b + octV W b c := by
  unfold octV octS octD
  have h1 := dst_tri (a % W) (b % W) (c % W)
  have h2 := dst_tri (a / W) (b / W) (c / W)
  generalize dst (a % W) (c % W) = X at *
  generalize dst (a / W) (c / W) = Y at *
  generalize dst (a % W) (b % W) = X1 at *
  generalize dst (a / W) (b / W) = Y1 at *
  generalize dst (b % W) (c % W) = X2 at *
  generalize dst (b / W) (c / W) = Y2 at *
  obtain ⟨a1, a2, a3⟩ := oct_lin X Y
  obtain ⟨b1, b2, b3⟩ := oct_lin X1 Y1
  obtain ⟨c1, c2, c3⟩ := oct_lin X2 Y2
  clear b3 c3
  rcases a3 with a3 | a3 <;> omega

theorem oct_low' {o a s d : Int} (w1 : 1 ≤ W) (h : Wk (Edge W H bl) o a s d) : octV W o a ≤ val s d := oct_low w1 h
theorem wk_edge {p r : Int} {k : Nat} (e : Edge W H bl p k r) : Wk (Edge W H bl) p r (stS k) (stD k) := by
  have := (Wk.nil (E := Edge W H bl) (o := p)).step e
  rwa [Int.zero_add, Int.zero_add] at this

/-- a step that is not lost -/
theorem good_iff (w1 : 1 ≤ W) {p r t : Int} {k : Nat} (e : Edge W H bl p k r) : Good (p % W) (p / W) (t % W) (t / W) k ↔ octS W r t + stS k = octS W p t ∧ octD W r t + stD k = octD W p t := by
  obtain ⟨h1, h2⟩ := e.place w1
  unfold Good octS octD
  rw [h1, h2]

/-- come to from a cell by steps towards another one -/
def Tw (W H : Int) (bl : Nat → Bool) (a t p : Int) : Prop :=
  ∀ R : Int → Prop, R a → (∀ p k r, R p → Edge W H bl p k r → Good (p % W) (p / W) (t % W) (t / W) k → R r) → R p
theorem Tw.nil {a t : Int} : Tw W H bl a t a := fun _ h _ => h
theorem Tw.step {a t p r : Int} {k : Nat} (h : Tw W H bl a t p) (e : Edge W H bl p k r) (g : Good (p % W) (p / W) (t % W) (t / W) k) : Tw W H bl a t r := fun R h0 hs => hs _ _ _ (h R h0 hs) e g

theorem Tw.walk (w1 : 1 ≤ W) {a t p : Int} (h : Tw W H bl a t p) : ∃ s d, Wk (Edge W H bl) a p s d ∧ s + octS W p t = octS W a t ∧ d + octD W p t = octD W a t := by
  refine h (fun p => ∃ s d, Wk (Edge W H bl) a p s d ∧ s + octS W p t = octS W a t ∧ d + octD W p t = octD W a t) ⟨0, 0, Wk.nil, Int.zero_add _, Int.zero_add _⟩ ?_
  rintro p k r ⟨s, d, hw, h1, h2⟩ e g
  obtain ⟨g1, g2⟩ := (good_iff w1 e).1 g
  exact ⟨_, _, hw.step e, by omega, by omega⟩

theorem octD_le {W a b : Int} : octD W a b * 54608393 ≤ octV W a b := by
  have := octS_nonneg W a b
  have := octD_nonneg W a b
  unfold octV val
  omega

theorem Tw.of_walk (w1 : 1 ≤ W) {a t p s d : Int} (hb : octD W a t ≤ 1000) (hs : octS W a t ≤ 1000) (h : Wk (Edge W H bl) a p s d) (hv : val s d + octV W p t ≤ octV W a t) : Tw W H bl a t p := by
  refine h.ind (R := fun p s d => val s d + octV W p t ≤ octV W a t → Tw W H bl a t p) (fun _ => Tw.nil) ?_ hv
  intro p s d k r hw ih e hv
  have e1 := oct_low' w1 (wk_edge e)
  have e2 := oct_tri W p r t
  have e3 := oct_tri W a p t
  have e4 := oct_low' w1 hw
  rw [val_add] at hv
  have hp : val s d + octV W p t ≤ octV W a t := by omega
  have heq : octV W r t + val (stS k) (stD k) = octV W p t := by omega
  have hle : octV W p t ≤ octV W a t := by
    obtain ⟨n1, n2⟩ := hw.nonneg
    have := val_nonneg n1 n2
    omega
  have m1 := octD_le (W := W) (a := p) (b := t)
  have m2 := octD_le (W := W) (a := r) (b := t)
  have m3 := octD_nonneg W p t
  have m4 := octD_nonneg W r t
  have m5 : octV W a t ≤ 93222358000 := by unfold octV val; omega
  have m6 := val_nonneg (octS_nonneg W r t) m4
  have m7 := (val_st k).1
  have c3 := st_bd k
  have q : val (octS W r t + stS k) (octD W r t + stD k) = val (octS W p t) (octD W p t) := by rw [val_add]; exact heq
  obtain ⟨q1, q2⟩ := val_inj _ _ _ _ (by omega) (by omega) q
  exact (ih hp).step e ((good_iff w1 e).2 ⟨q1, q2⟩)

/-- on a way between two that is as short as if nothing were in the way -/
def On (W H : Int) (bl : Nat → Bool) (a b k : Int) : Prop := Tw W H bl a b k ∧ Tw W H bl b a k

/-- the cells of a grid are not far apart -/
theorem oct_small {a b : Int} (w1 : 1 ≤ W) (w2 : W ≤ 16) (h1 : 1 ≤ H) (h2 : H ≤ 16) (ha : inB W H a = true) (hb : inB W H b = true) : octS W a b ≤ 16 ∧ octD W a b ≤ 16 := by
  have ha : 0 ≤ a ∧ a < W * H := of_decide_eq_true ha
  have hb : 0 ≤ b ∧ b < W * H := of_decide_eq_true hb
  have p1 := Int.emod_nonneg a (show W ≠ 0 by omega)
  have p2 := Int.emod_lt_of_pos a (show 0 < W by omega)
  have p3 := Int.emod_nonneg b (show W ≠ 0 by omega)
  have p4 := Int.emod_lt_of_pos b (show 0 < W by omega)
  have q1 : 0 ≤ a / W := Int.ediv_nonneg ha.1 (by omega)
  have q2 : 0 ≤ b / W := Int.ediv_nonneg hb.1 (by omega)
  have q3 : a / W < H := Int.ediv_lt_of_lt_mul (by omega) (by rw [Int.mul_comm]; exact ha.2)
  have q4 : b / W < H := Int.ediv_lt_of_lt_mul (by omega) (by rw [Int.mul_comm]; exact hb.2)
  unfold octS octD
  generalize a % W = ax at *
  generalize a / W = ay at *
  generalize b % W = bx at *
  generalize b / W = by' at *
  have r1 : dst ax bx ≤ 16 ∧ 0 ≤ dst ax bx := by unfold dst; split <;> omega
  have r2 : dst ay by' ≤ 16 ∧ 0 ≤ dst ay by' := by unfold dst; split <;> omega
  generalize dst ax bx = X at *
  generalize dst ay by' = Y at *
  unfold dst les
  constructor <;> split <;> omega

theorem pair_eq {s d t u : Int} (h1 : 0 ≤ d) (h2 : 0 ≤ s) (h3 : 0 ≤ u) (h4 : u ≤ 1000) (h : val s d = val t u) (ht : t ≤ 1000) : s = t ∧ d = u := by
  have h5 : val t u ≤ 93222358000 := by unfold val; omega
  have h6 : 54608393 * d ≤ val s d := by unfold val; omega
  have h7 : d ≤ 2000 := by
    rw [h] at h6
    clear h
    generalize val t u = x at *
    omega
  exact val_inj s d t u (by omega) (by omega) h

/-- what is on has walks from both ends that add up; and these cost as if nothing were in the way -/
theorem On.walks (w1 : 1 ≤ W) {a b k : Int} (hS : octS W a b ≤ 1000) (hD : octD W a b ≤ 1000) (h : On W H bl a b k) :
    Wk (Edge W H bl) a k (octS W a k) (octD W a k) ∧ Wk (Edge W H bl) b k (octS W b k) (octD W b k) ∧ octS W a k + octS W b k = octS W a b ∧ octD W a k + octD W b k = octD W a b := by
  obtain ⟨s, d, hw, e1, e2⟩ := h.1.walk w1
  obtain ⟨t, u, hx, f1, f2⟩ := h.2.walk w1
  have a1 := oct_low' w1 hw
  have a2 := oct_low' w1 hx
  have a3 := oct_tri W a k b
  have e3 : val s d + octV W k b = octV W a b := by unfold octV; rw [← val_add, e1, e2]
  have f3 : val t u + octV W k a = octV W b a := by unfold octV; rw [← val_add, f1, f2]
  rw [octV_comm W b a] at f3
  rw [octV_comm W k b] at e3
  rw [octV_comm W k a] at f3
  rw [octV_comm W k b] at a3
  have v1 : val s d = octV W a k := by omega
  have v2 : val t u = octV W b k := by omega
  obtain ⟨n1, n2⟩ := hw.nonneg
  obtain ⟨n3, n4⟩ := hx.nonneg
  have o1 := octS_nonneg W k b
  have o2 := octD_nonneg W k b
  have o3 := octS_nonneg W k a
  have o4 := octD_nonneg W k a
  rw [octS_comm W b a] at f1
  rw [octD_comm W b a] at f2
  have p1 := pair_eq (octD_nonneg W a k) (octS_nonneg W a k) n2 (by omega) v1.symm (by omega)
  have p2 := pair_eq (octD_nonneg W b k) (octS_nonneg W b k) n4 (by omega) v2.symm (by omega)
  rw [octS_comm W k b] at e1
  rw [octD_comm W k b] at e2
  rw [p1.1, p1.2]
  refine ⟨hw, by rw [p2.1, p2.2]; exact hx, by omega, by omega⟩
theorem On.of_walks (w1 : 1 ≤ W) {a b k s d t u : Int} (hS : octS W a b ≤ 1000) (hD : octD W a b ≤ 1000) (hw : Wk (Edge W H bl) a k s d) (hx : Wk (Edge W H bl) b k t u) (h1 : s + t = octS W a b) (h2 : d + u = octD W a b) : On W H bl a b k := by
  have a1 := oct_low' w1 hw
  have a2 := oct_low' w1 hx
  have a3 := oct_tri W a k b
  have e3 : val s d + val t u = octV W a b := by unfold octV; rw [← val_add, h1, h2]
  refine ⟨Tw.of_walk w1 hD hS hw ?_, Tw.of_walk w1 (by rw [octD_comm]; exact hD) (by rw [octS_comm]; exact hS) hx ?_⟩
  · rw [octV_comm W k b]; omega
  · rw [octV_comm W b a, octV_comm W k a]
    rw [octV_comm W k b] at a3
    omega

section
variable {F G : Int → Option (Int × Int)} {a b : Int}
theorem best_oct (w1 : 1 ≤ W) (BA : Best (Edge W H bl) a F) {k : Int} (h : Wk (Edge W H bl) a k (octS W a k) (octD W a k)) : F k = some (octS W a k, octD W a k) := by
  obtain ⟨s, d, h1, h2⟩ := BA.least h
  have h3 := oct_low' w1 (BA.sound h1)
  obtain ⟨b1, b2, b3⟩ := BA.small h1
  have c2 := val_small b1 b2 b3
  have v : val (octS W a k) (octD W a k) = val s d := by unfold octV at h3; omega
  obtain ⟨e1, e2⟩ := pair_eq (octD_nonneg W a k) (octS_nonneg W a k) b2 (by omega) v (by omega)
  rw [h1, e1, e2]
theorem on_iff (w1 : 1 ≤ W) (hS : octS W a b ≤ 1000) (hD : octD W a b ≤ 1000) (BA : Best (Edge W H bl) a F) (BB : Best (Edge W H bl) b G) (k : Int) :
    On W H bl a b k ↔ ∃ s d t u, F k = some (s, d) ∧ G k = some (t, u) ∧ s + t = octS W a b ∧ d + u = octD W a b := by
  constructor
  · intro h
    obtain ⟨h1, h2, h3, h4⟩ := h.walks w1 hS hD
    exact ⟨_, _, _, _, best_oct w1 BA h1, best_oct w1 BB h2, h3, h4⟩
  · rintro ⟨s, d, t, u, h1, h2, h3, h4⟩
    exact On.of_walks w1 hS hD (BA.sound h1) (BB.sound h2) h3 h4
end
section
variable {a b : Int}
theorem On.ends (w1 : 1 ≤ W) {k : Int} (hS : octS W a b ≤ 1000) (hD : octD W a b ≤ 1000) (h : On W H bl a b k) : On W H bl a b a ∧ On W H bl a b b ∧ Wk (Edge W H bl) a b (octS W a b) (octD W a b) := by
  obtain ⟨h1, h2, h3, h4⟩ := h.walks w1 hS hD
  have hj := Wk.join h1 (h2.back (Edge.back w1))
  rw [h3, h4] at hj
  exact ⟨On.of_walks w1 hS hD Wk.nil (hj.back (Edge.back w1)) (Int.zero_add _) (Int.zero_add _), On.of_walks w1 hS hD hj Wk.nil (Int.add_zero _) (Int.add_zero _), hj⟩
theorem On.of_near (w1 : 1 ≤ W) (hS : octS W a b ≤ 1000) (hD : octD W a b ≤ 1000) (h : Wk (Edge W H bl) a b (octS W a b) (octD W a b)) : On W H bl a b b :=
  On.of_walks w1 hS hD h Wk.nil (Int.add_zero _) (Int.add_zero _)
/-- from each of them but the end a step leads on -/
theorem On.next (w1 : 1 ≤ W) {k : Int} (hS : octS W a b ≤ 1000) (hD : octD W a b ≤ 1000) (h : On W H bl a b k) (hne : k ≠ b) : ∃ j r, Edge W H bl k j r ∧ Good (k % W) (k / W) (b % W) (b / W) j ∧ On W H bl a b r := by
  obtain ⟨h1, h2, h3, h4⟩ := h.walks w1 hS hD
  rcases h2.inv with ⟨e, _⟩ | ⟨r, t', u', j, hr, er, e1, e2⟩
  · exact absurd e hne
  · obtain ⟨j', er', f1, f2⟩ := Edge.back w1 _ _ _ er
    have hon := On.of_walks w1 hS hD (h1.step er') hr (by omega) (by omega)
    obtain ⟨g1, g2, g3, g4⟩ := hon.walks w1 hS hD
    refine ⟨j', r, er', (good_iff w1 er').2 ?_, hon⟩
    have q := oct_low' w1 hr
    have q2 := oct_low' w1 (h1.step er')
    have q3 : val (octS W a k + stS j') (octD W a k + stD j') + val t' u' = octV W a r + octV W b r := by
      unfold octV
      rw [← val_add, ← val_add]
      congr 1 <;> omega
    have q4 : val (octS W b r) (octD W b r) = val t' u' := by unfold octV at q q2 q3; omega
    obtain ⟨n1, n2⟩ := hr.nonneg
    have := octS_nonneg W a k
    have := octD_nonneg W a k
    have := st_bd j
    obtain ⟨z1, z2⟩ := pair_eq (octD_nonneg W b r) (octS_nonneg W b r) n2 (by omega) q4 (by omega)
    rw [octS_comm W r b, octD_comm W r b, octS_comm W k b, octD_comm W k b]
    omega
end

end Go.Proofs.YtmnpplkjhnoglaaGreatDoor
/-
  What is wrong with a cell on which one is to be; the first look at a walk.
-/
namespace Go.Proofs.YtmnpplkjhnoglaaGreatDoor
open Go.RowKit

/-- what is wrong with a cell: 1: it is none; 4: it is blocked -/
def ffv (W H : Int) (bl : Nat → Bool) (c : Int) : Int := if inB W H c then (if bl c.toNat then 4 else 0) else 1
/-- an error by its number -/
def errV (n : Int) : Value := if n = 0 then .nilIface else .iface 96 (.int .i64 n)

theorem check_any {b : Nat} {W H V : Int} {bl : Nat → Bool} (c : Int) (w : World) (g : GridAt w b W H V bl) :
    Calls Tryz.prog 75 #[.pointer (some ⟨b, 0, none⟩), .int .i64 c] w fun e w' => e = .returned (errV (ffv W H bl c)) ∧ Below w.heap.size w w' := by
  have q : ∀ {v : Value}, (Calls Tryz.prog 75 #[.pointer (some ⟨b, 0, none⟩), .int .i64 c] w fun e w' => e = .returned v ∧ ∃ m, w' = w.drewN m) → Calls Tryz.prog 75 #[.pointer (some ⟨b, 0, none⟩), .int .i64 c] w fun e w' => e = .returned v ∧ Below w.heap.size w w' := fun h => h.mono fun _ _ ⟨he, m, hm⟩ => ⟨he, by subst hm; exact below_drewN (Below.refl _ _) m⟩
  cases hr : inB W H c with
  | false =>
    have e : ffv W H bl c = 1 := by unfold ffv; rw [hr]; rfl
    rw [e]; exact q (check_out c w g hr)
  | true =>
    have hc : 0 ≤ c ∧ c < W * H := of_decide_eq_true hr
    obtain ⟨n, rfl⟩ : ∃ n : Nat, c = n := ⟨c.toNat, by omega⟩
    have e : ffv W H bl n = if bl n then 4 else 0 := by unfold ffv; rw [hr]; rfl
    rw [e]
    cases hb : bl n with
    | true => exact q (check_bl n w g hr hb)
    | false => exact q (check_ok n w g hr hb)
end Go.Proofs.YtmnpplkjhnoglaaGreatDoor
/-
  What is near, and the way: the mathematics of 'TopNear'.
-/
namespace Go.Proofs.YtmnpplkjhnoglaaGreatDoor
open Go.RowKit

variable {W H : Int} {bl : Nat → Bool}
theorem On.sym {a b k : Int} (h : On W H bl a b k) : On W H bl b a k := ⟨h.2, h.1⟩
theorem near_iff {a b : Int} {F : Int → Option (Int × Int)} (w1 : 1 ≤ W) (hS : octS W a b ≤ 1000) (hD : octD W a b ≤ 1000) (BA : Best (Edge W H bl) a F) : (∃ z, On W H bl a b z) ↔ F b = some (octS W a b, octD W a b) := by
  constructor
  · rintro ⟨z, h⟩
    exact best_oct w1 BA (h.ends w1 hS hD).2.2
  · intro h
    exact ⟨b, On.of_near w1 hS hD (BA.sound h)⟩
theorem ffv_zero {c : Int} (h1 : inB W H c = true) (h2 : bl c.toNat = false) : ffv W H bl c = 0 := by unfold ffv; rw [h1, h2]; rfl

end Go.Proofs.YtmnpplkjhnoglaaGreatDoor
