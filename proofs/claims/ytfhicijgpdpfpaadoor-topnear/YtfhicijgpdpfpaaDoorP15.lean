/-
  Texts laid together: ReachM, RSpread, Between, Reach.
-/
import Derived.Test.YtfhicijgpdpfpaaDoorP14
/-
  Steps towards a cell, and what is come to by them from both ends; no Go in sight.
-/
namespace Go.Proofs.YtfhicijgpdpfpaaDoor

variable {W H : Int} {bl : Nat → Bool}

/-- what it costs between two cells if nothing is in the way, as one number -/
def octV (W a b : Int) : Int := val (octS W a b) (octD W a b)

theorem dst_comm (a b : Int) : dst a b = dst b a := by unfold dst; split <;> split <;> omega
theorem octS_comm (W a b : Int) : octS W a b = octS W b a := by unfold octS; rw [dst_comm (a % W), dst_comm (a / W)]
theorem octD_comm (W a b : Int) : octD W a b = octD W b a := by unfold octD; rw [dst_comm (a % W), dst_comm (a / W)]
theorem octV_comm (W a b : Int) : octV W a b = octV W b a := by unfold octV; rw [octS_comm, octD_comm]
theorem dst_self (a : Int) : dst a a = 0 := by unfold dst; split <;> omega
theorem octS_self (W a : Int) : octS W a a = 0 := by unfold octS; rw [dst_self, dst_self]; rfl
theorem octD_self (W a : Int) : octD W a a = 0 := by unfold octD; rw [dst_self, dst_self]; rfl
theorem dst_nonneg (a b : Int) : 0 ≤ dst a b := by unfold dst; split <;> omega
theorem octS_nonneg (W a b : Int) : 0 ≤ octS W a b := dst_nonneg _ _
theorem octD_nonneg (W a b : Int) : 0 ≤ octD W a b := by
  unfold octD les
  have := dst_nonneg (a % W) (b % W)
  have := dst_nonneg (a / W) (b / W)
  split <;> omega
theorem val_nonneg {s d : Int} (h : 0 ≤ s) (k : 0 ≤ d) : 0 ≤ val s d := by unfold val; omega

/-- two linear bounds whose greater one it is -/
theorem oct_lin (X Y : Int) : 38613965 * X + 15994428 * Y ≤ val (dst X Y) (les X Y) ∧ 38613965 * Y + 15994428 * X ≤ val (dst X Y) (les X Y) ∧ (val (dst X Y) (les X Y) = 38613965 * X + 15994428 * Y ∨ val (dst X Y) (les X Y) = 38613965 * Y + 15994428 * X) := by
  unfold val dst les
  split <;> omega
theorem dst_tri (a b c : Int) : dst a c ≤ dst a b + dst b c := by unfold dst; split <;> split <;> split <;> omega
theorem oct_tri (W a b c : Int) : octV W a c ≤ octV W a b + octV W b c := by
  unfold octV octS octD
  have h1 := dst_tri (a % W) (b % W) (c % W)
  have h2 := dst_tri (a / W) (b / W) (c / W)
  generalize dst (a % W) (c % W) = X at *
  generalize dst (a / W) (c / W) = Y at *
  generalize dst (a % W) (b % W) = X1 at *
  generalize dst (a / W) (b / W) = Y1 at *
  generalize dst (b % W) (c % W) = X2 at *
  generalize dst (b / W) (c / W) = Y2 at *
  obtain ⟨a1, a2, a3⟩ := oct_lin X Y
  obtain ⟨b1, b2, b3⟩ := oct_lin X1 Y1
  obtain ⟨c1, c2, c3⟩ := oct_lin X2 Y2
  clear b3 c3
  rcases a3 with a3 | a3 <;> omega

theorem oct_low' {o a s d : Int} (w1 : 1 ≤ W) (h : Wk (Edge W H bl) o a s d) : octV W o a ≤ val s d := oct_low w1 h
theorem wk_edge {p r : Int} {k : Nat} (e : Edge W H bl p k r) : Wk (Edge W H bl) p r (stS k) (stD k) := by
  have := (Wk.nil (E := Edge W H bl) (o := p)).step e
  rwa [Int.zero_add, Int.zero_add] at this

/-- a step that is not lost -/
theorem good_iff (w1 : 1 ≤ W) {p r t : Int} {k : Nat} (e : Edge W H bl p k r) : Good (p % W) (p / W) (t % W) (t / W) k ↔ octS W r t + stS k = octS W p t ∧ octD W r t + stD k = octD W p t := by
  obtain ⟨h1, h2⟩ := e.place w1
  unfold Good octS octD
  rw [h1, h2]

/-- come to from a cell by steps towards another one -/
def Tw (W H : Int) (bl : Nat → Bool) (a t p : Int) : Prop :=
  ∀ R : Int → Prop, R a → (∀ p k r, R p → Edge W H bl p k r → Good (p % W) (p / W) (t % W) (t / W) k → R r) → R p
theorem Tw.nil {a t : Int} : Tw W H bl a t a := fun _ h _ => h
theorem Tw.step {a t p r : Int} {k : Nat} (h : Tw W H bl a t p) (e : Edge W H bl p k r) (g : Good (p % W) (p / W) (t % W) (t / W) k) : Tw W H bl a t r := fun R h0 hs => hs _ _ _ (h R h0 hs) e g

theorem Tw.walk (w1 : 1 ≤ W) {a t p : Int} (h : Tw W H bl a t p) : ∃ s d, Wk (Edge W H bl) a p s d ∧ s + octS W p t = octS W a t ∧ d + octD W p t = octD W a t := by
  refine h (fun p => ∃ s d, Wk (Edge W H bl) a p s d ∧ s + octS W p t = octS W a t ∧ d + octD W p t = octD W a t) ⟨0, 0, Wk.nil, Int.zero_add _, Int.zero_add _⟩ ?_
  rintro p k r ⟨s, d, hw, h1, h2⟩ e g
  obtain ⟨g1, g2⟩ := (good_iff w1 e).1 g
  exact ⟨_, _, hw.step e, by omega, by omega⟩

theorem octS_le {W a b : Int} : octS W a b * 38613965 ≤ octV W a b := by
  have := octS_nonneg W a b
  have := octD_nonneg W a b
  unfold octV val
  omega
theorem octD_le {W a b : Int} : octD W a b * 54608393 ≤ octV W a b := by
  have := octS_nonneg W a b
  have := octD_nonneg W a b
  unfold octV val
  omega

theorem Tw.of_walk (w1 : 1 ≤ W) {a t p s d : Int} (hb : octD W a t ≤ 1000) (hs : octS W a t ≤ 1000) (h : Wk (Edge W H bl) a p s d) (hv : val s d + octV W p t ≤ octV W a t) : Tw W H bl a t p := by
  refine h.ind (R := fun p s d => val s d + octV W p t ≤ octV W a t → Tw W H bl a t p) (fun _ => Tw.nil) ?_ hv
  intro p s d k r hw ih e hv
  have e1 := oct_low' w1 (wk_edge e)
  have e2 := oct_tri W p r t
  have e3 := oct_tri W a p t
  have e4 := oct_low' w1 hw
  rw [val_add] at hv
  have hp : val s d + octV W p t ≤ octV W a t := by omega
  have heq : octV W r t + val (stS k) (stD k) = octV W p t := by omega
  have hle : octV W p t ≤ octV W a t := by
    obtain ⟨n1, n2⟩ := hw.nonneg
    have := val_nonneg n1 n2
    omega
  have m1 := octD_le (W := W) (a := p) (b := t)
  have m2 := octD_le (W := W) (a := r) (b := t)
  have m3 := octD_nonneg W p t
  have m4 := octD_nonneg W r t
  have m5 : octV W a t ≤ 93222358000 := by unfold octV val; omega
  have m6 := val_nonneg (octS_nonneg W r t) m4
  have m7 := (val_st k).1
  have c3 := st_bd k
  have q : val (octS W r t + stS k) (octD W r t + stD k) = val (octS W p t) (octD W p t) := by rw [val_add]; exact heq
  obtain ⟨q1, q2⟩ := val_inj _ _ _ _ (by omega) (by omega) q
  exact (ih hp).step e ((good_iff w1 e).2 ⟨q1, q2⟩)

/-- on a way between two that is as short as if nothing were in the way -/
def On (W H : Int) (bl : Nat → Bool) (a b k : Int) : Prop := Tw W H bl a b k ∧ Tw W H bl b a k

/-- the cells of a grid are not far apart -/
theorem oct_small {a b : Int} (w1 : 1 ≤ W) (w2 : W ≤ 16) (h1 : 1 ≤ H) (h2 : H ≤ 16) (ha : inB W H a = true) (hb : inB W H b = true) : octS W a b ≤ 16 ∧ octD W a b ≤ 16 := by
  have ha : 0 ≤ a ∧ a < W * H := of_decide_eq_true ha
  have hb : 0 ≤ b ∧ b < W * H := of_decide_eq_true hb
  have p1 := Int.emod_nonneg a (show W ≠ 0 by omega)
  have p2 := Int.emod_lt_of_pos a (show 0 < W by omega)
  have p3 := Int.emod_nonneg b (show W ≠ 0 by omega)
  have p4 := Int.emod_lt_of_pos b (show 0 < W by omega)
  have q1 : 0 ≤ a / W := Int.ediv_nonneg ha.1 (by omega)
  have q2 : 0 ≤ b / W := Int.ediv_nonneg hb.1 (by omega)
  have q3 : a / W < H := Int.ediv_lt_of_lt_mul (by omega) (by rw [Int.mul_comm]; exact ha.2)
  have q4 : b / W < H := Int.ediv_lt_of_lt_mul (by omega) (by rw [Int.mul_comm]; exact hb.2)
  unfold octS octD
  generalize a % W = ax at *
  generalize a / W = ay at *
  generalize b % W = bx at *
  generalize b / W = by' at *
  have r1 : dst ax bx ≤ 16 ∧ 0 ≤ dst ax bx := by unfold dst; split <;> omega
  have r2 : dst ay by' ≤ 16 ∧ 0 ≤ dst ay by' := by unfold dst; split <;> omega
  generalize dst ax bx = X at *
  generalize dst ay by' = Y at *
  unfold dst les
  constructor <;> split <;> omega

theorem pair_eq {s d t u : Int} (h1 : 0 ≤ d) (h2 : 0 ≤ s) (h3 : 0 ≤ u) (h4 : u ≤ 1000) (h : val s d = val t u) (ht : t ≤ 1000) : s = t ∧ d = u := by
  have h5 : val t u ≤ 93222358000 := by unfold val; omega
  have h6 : 54608393 * d ≤ val s d := by unfold val; omega
  have h7 : d ≤ 2000 := by
    rw [h] at h6
    clear h
    generalize val t u = x at *
    omega
  exact val_inj s d t u (by omega) (by omega) h

/-- what is on has walks from both ends that add up; and these cost as if nothing were in the way -/
theorem On.walks (w1 : 1 ≤ W) {a b k : Int} (hS : octS W a b ≤ 1000) (hD : octD W a b ≤ 1000) (h : On W H bl a b k) :
    Wk (Edge W H bl) a k (octS W a k) (octD W a k) ∧ Wk (Edge W H bl) b k (octS W b k) (octD W b k) ∧ octS W a k + octS W b k = octS W a b ∧ octD W a k + octD W b k = octD W a b := by
  obtain ⟨s, d, hw, e1, e2⟩ := h.1.walk w1
  obtain ⟨t, u, hx, f1, f2⟩ := h.2.walk w1
  have a1 := oct_low' w1 hw
  have a2 := oct_low' w1 hx
  have a3 := oct_tri W a k b
  have e3 : val s d + octV W k b = octV W a b := by unfold octV; rw [← val_add, e1, e2]
  have f3 : val t u + octV W k a = octV W b a := by unfold octV; rw [← val_add, f1, f2]
  rw [octV_comm W b a] at f3
  rw [octV_comm W k b] at e3
  rw [octV_comm W k a] at f3
  rw [octV_comm W k b] at a3
  have v1 : val s d = octV W a k := by omega
  have v2 : val t u = octV W b k := by omega
  obtain ⟨n1, n2⟩ := hw.nonneg
  obtain ⟨n3, n4⟩ := hx.nonneg
  have o1 := octS_nonneg W k b
  have o2 := octD_nonneg W k b
  have o3 := octS_nonneg W k a
  have o4 := octD_nonneg W k a
  rw [octS_comm W b a] at f1
  rw [octD_comm W b a] at f2
  have p1 := pair_eq (octD_nonneg W a k) (octS_nonneg W a k) n2 (by omega) v1.symm (by omega)
  have p2 := pair_eq (octD_nonneg W b k) (octS_nonneg W b k) n4 (by omega) v2.symm (by omega)
  rw [octS_comm W k b] at e1
  rw [octD_comm W k b] at e2
  rw [p1.1, p1.2]
  refine ⟨hw, by rw [p2.1, p2.2]; exact hx, by omega, by omega⟩
theorem On.of_walks (w1 : 1 ≤ W) {a b k s d t u : Int} (hS : octS W a b ≤ 1000) (hD : octD W a b ≤ 1000) (hw : Wk (Edge W H bl) a k s d) (hx : Wk (Edge W H bl) b k t u) (h1 : s + t = octS W a b) (h2 : d + u = octD W a b) : On W H bl a b k := by
  have a1 := oct_low' w1 hw
  have a2 := oct_low' w1 hx
  have a3 := oct_tri W a k b
  have e3 : val s d + val t u = octV W a b := by unfold octV; rw [← val_add, h1, h2]
  refine ⟨Tw.of_walk w1 hD hS hw ?_, Tw.of_walk w1 (by rw [octD_comm]; exact hD) (by rw [octS_comm]; exact hS) hx ?_⟩
  · rw [octV_comm W k b]; omega
  · rw [octV_comm W b a, octV_comm W k a]
    rw [octV_comm W k b] at a3
    omega

section
variable {F G : Int → Option (Int × Int)} {a b : Int}
theorem best_oct (w1 : 1 ≤ W) (BA : Best (Edge W H bl) a F) {k : Int} (h : Wk (Edge W H bl) a k (octS W a k) (octD W a k)) : F k = some (octS W a k, octD W a k) := by
  obtain ⟨s, d, h1, h2⟩ := BA.least h
  have h3 := oct_low' w1 (BA.sound h1)
  obtain ⟨b1, b2, b3⟩ := BA.small h1
  have c2 := val_small b1 b2 b3
  have v : val (octS W a k) (octD W a k) = val s d := by unfold octV at h3; omega
  obtain ⟨e1, e2⟩ := pair_eq (octD_nonneg W a k) (octS_nonneg W a k) b2 (by omega) v (by omega)
  rw [h1, e1, e2]
theorem on_iff (w1 : 1 ≤ W) (hS : octS W a b ≤ 1000) (hD : octD W a b ≤ 1000) (BA : Best (Edge W H bl) a F) (BB : Best (Edge W H bl) b G) (k : Int) :
    On W H bl a b k ↔ ∃ s d t u, F k = some (s, d) ∧ G k = some (t, u) ∧ s + t = octS W a b ∧ d + u = octD W a b := by
  constructor
  · intro h
    obtain ⟨h1, h2, h3, h4⟩ := h.walks w1 hS hD
    exact ⟨_, _, _, _, best_oct w1 BA h1, best_oct w1 BB h2, h3, h4⟩
  · rintro ⟨s, d, t, u, h1, h2, h3, h4⟩
    exact On.of_walks w1 hS hD (BA.sound h1) (BB.sound h2) h3 h4
end
section
variable {a b : Int}
theorem On.ends (w1 : 1 ≤ W) {k : Int} (hS : octS W a b ≤ 1000) (hD : octD W a b ≤ 1000) (h : On W H bl a b k) : On W H bl a b a ∧ On W H bl a b b ∧ Wk (Edge W H bl) a b (octS W a b) (octD W a b) := by
  obtain ⟨h1, h2, h3, h4⟩ := h.walks w1 hS hD
  have hj := Wk.join h1 (h2.back (Edge.back w1))
  rw [h3, h4] at hj
  exact ⟨On.of_walks w1 hS hD Wk.nil (hj.back (Edge.back w1)) (Int.zero_add _) (Int.zero_add _), On.of_walks w1 hS hD hj Wk.nil (Int.add_zero _) (Int.add_zero _), hj⟩
theorem On.of_near (w1 : 1 ≤ W) (hS : octS W a b ≤ 1000) (hD : octD W a b ≤ 1000) (h : Wk (Edge W H bl) a b (octS W a b) (octD W a b)) : On W H bl a b b :=
  On.of_walks w1 hS hD h Wk.nil (Int.add_zero _) (Int.add_zero _)
/-- from each of them but the end a step leads on -/
theorem On.next (w1 : 1 ≤ W) {k : Int} (hS : octS W a b ≤ 1000) (hD : octD W a b ≤ 1000) (h : On W H bl a b k) (hne : k ≠ b) : ∃ j r, Edge W H bl k j r ∧ Good (k % W) (k / W) (b % W) (b / W) j ∧ On W H bl a b r := by
  obtain ⟨h1, h2, h3, h4⟩ := h.walks w1 hS hD
  rcases h2.inv with ⟨e, _⟩ | ⟨r, t', u', j, hr, er, e1, e2⟩
  · exact absurd e hne
  · obtain ⟨j', er', f1, f2⟩ := Edge.back w1 _ _ _ er
    have hon := On.of_walks w1 hS hD (h1.step er') hr (by omega) (by omega)
    obtain ⟨g1, g2, g3, g4⟩ := hon.walks w1 hS hD
    refine ⟨j', r, er', (good_iff w1 er').2 ?_, hon⟩
    have q := oct_low' w1 hr
    have q2 := oct_low' w1 (h1.step er')
    have q3 : val (octS W a k + stS j') (octD W a k + stD j') + val t' u' = octV W a r + octV W b r := by
      unfold octV
      rw [← val_add, ← val_add]
      congr 1 <;> omega
    have q4 : val (octS W b r) (octD W b r) = val t' u' := by unfold octV at q q2 q3; omega
    obtain ⟨n1, n2⟩ := hr.nonneg
    have := octS_nonneg W a k
    have := octD_nonneg W a k
    have := st_bd j
    obtain ⟨z1, z2⟩ := pair_eq (octD_nonneg W b r) (octS_nonneg W b r) n2 (by omega) q4 (by omega)
    rw [octS_comm W r b, octD_comm W r b, octS_comm W k b, octD_comm W k b]
    omega
/-- at the end none does -/
theorem good_end {x y : Int} {k : Nat} (hk : k < 8) : ¬ Good x y x y k := by
  intro g
  obtain ⟨a1, a2⟩ := good_dir hk g
  by_cases q : k % 2 = 1
  · have := (a1 q).1; omega
  · have := a2 (by omega); omega
end

/-- the step that a way takes: a diagonal one, if there is one -/
def Cand (W H : Int) (bl : Nat → Bool) (a b p : Int) (k : Nat) (r : Int) : Prop := Edge W H bl p k r ∧ Good (p % W) (p / W) (b % W) (b / W) k ∧ On W H bl a b r
def Chosen (W H : Int) (bl : Nat → Bool) (a b p : Int) (k : Nat) (r : Int) : Prop := Cand W H bl a b p k r ∧ (k % 2 = 0 → ∀ j q, j % 2 = 1 → ¬ Cand W H bl a b p j q)
theorem Chosen.one {a b p r q : Int} {k j : Nat} (h : Chosen W H bl a b p k r) (g : Chosen W H bl a b p j q) : k = j ∧ r = q := by
  have hp : k % 2 = j % 2 := by
    rcases Nat.mod_two_eq_zero_or_one k with e | e <;> rcases Nat.mod_two_eq_zero_or_one j with f | f
    · omega
    · exact absurd g.1 (h.2 e _ _ f)
    · exact absurd h.1 (g.2 f _ _ e)
    · omega
  have e := good_one h.1.1.1 g.1.1.1 hp h.1.2.1 g.1.2.1
  refine ⟨e, ?_⟩
  rw [h.1.1.2.2.2, g.1.1.2.2.2, e]
theorem Cand.one {a b p r q : Int} {k j : Nat} (h : Cand W H bl a b p k r) (g : Cand W H bl a b p j q) (hp : k % 2 = j % 2) : k = j ∧ r = q := by
  have e := good_one h.1.1 g.1.1 hp h.2.1 g.2.1
  refine ⟨e, ?_⟩
  rw [h.1.2.2.2, g.1.2.2.2, e]
theorem Chosen.ex (w1 : 1 ≤ W) {a b p : Int} (hS : octS W a b ≤ 1000) (hD : octD W a b ≤ 1000) (h : On W H bl a b p) (hne : p ≠ b) : ∃ k r, Chosen W H bl a b p k r := by
  obtain ⟨j, r, h1, h2, h3⟩ := h.next w1 hS hD hne
  by_cases hd : ∃ k q, k % 2 = 1 ∧ Cand W H bl a b p k q
  · obtain ⟨k, q, h4, h5⟩ := hd
    exact ⟨k, q, h5, fun e => by omega⟩
  · exact ⟨j, r, ⟨h1, h2, h3⟩, fun _ k q h4 h5 => hd ⟨k, q, h4, h5⟩⟩
theorem Chosen.none {a b r : Int} {k : Nat} : ¬ Chosen W H bl a b b k r := fun h => good_end h.1.1.1 h.1.2.1

/-- a step of the way -/
def WSt (W H : Int) (bl : Nat → Bool) (a b p r : Int) : Prop := ∃ k, Chosen W H bl a b p k r
theorem way_one {a b : Int} : ∀ {l l' : List Int} {p : Int}, Chn (WSt W H bl a b) p l b → Chn (WSt W H bl a b) p l' b → l = l'
  | [], [], _, _, _ => rfl
  | [], r :: l', p, h, k => by
    have e : p = b := h
    subst e
    obtain ⟨⟨k, hk⟩, _⟩ := k
    exact absurd hk Chosen.none
  | r :: l, [], p, h, k => by
    have e : p = b := k
    subst e
    obtain ⟨⟨k, hk⟩, _⟩ := h
    exact absurd hk Chosen.none
  | r :: l, q :: l', p, ⟨⟨k, hk⟩, h⟩, ⟨⟨j, hj⟩, g⟩ => by
    obtain ⟨_, rfl⟩ := hk.one hj
    rw [way_one h g]
theorem Chn.snoc {P : Int → Int → Prop} : ∀ {l : List Int} {a c r : Int}, Chn P a l c → P c r → Chn P a (l ++ [r]) r
  | [], a, c, r, h, k => by
    have e : a = c := h
    subst e
    exact ⟨k, rfl⟩
  | x :: l, a, c, r, ⟨h1, h2⟩, k => ⟨h1, Chn.snoc h2 k⟩
end Go.Proofs.YtfhicijgpdpfpaaDoor
/-
  All that is come to by steps towards a cell: package reach's 'spread' and 'between'.
-/
namespace Go.Proofs.YtfhicijgpdpfpaaDoor
open Go.RowKit

/-- how many steps if nothing is in the way -/
def octN (W a b : Int) : Int := octS W a b + octD W a b
theorem octN_nonneg (W a b : Int) : 0 ≤ octN W a b := by
  have := octS_nonneg W a b
  have := octD_nonneg W a b
  unfold octN; omega
theorem octN_step {W H : Int} {bl : Nat → Bool} (w1 : 1 ≤ W) {p r t : Int} {k : Nat} (e : Edge W H bl p k r) (g : Good (p % W) (p / W) (t % W) (t / W) k) : octN W r t + 1 = octN W p t := by
  obtain ⟨h1, h2⟩ := (good_iff w1 e).1 g
  have := st_bd k
  unfold octN
  omega
theorem Tw.inv {W H : Int} {bl : Nat → Bool} {a t z : Int} (h : Tw W H bl a t z) : z = a ∨ ∃ p k, Tw W H bl a t p ∧ Edge W H bl p k z ∧ Good (p % W) (p / W) (t % W) (t / W) k := by
  have := h (fun z => Tw W H bl a t z ∧ (z = a ∨ ∃ p k, Tw W H bl a t p ∧ Edge W H bl p k z ∧ Good (p % W) (p / W) (t % W) (t / W) k)) ⟨Tw.nil, Or.inl rfl⟩ (fun p k r hp e g => ⟨hp.1.step e g, Or.inr ⟨p, k, hp.1, e, g⟩⟩)
  exact this.2
theorem Tw.in {W H : Int} {bl : Nat → Bool} {a t z : Int} (w1 : 1 ≤ W) (ha : inB W H a = true) (h : Tw W H bl a t z) : inB W H z = true :=
  h (fun z => inB W H z = true) ha (fun _ _ _ _ e _ => e.in' w1)
theorem Tw.top {W H : Int} {bl : Nat → Bool} {a t z : Int} (w1 : 1 ≤ W) (h : Tw W H bl a t z) : octN W z t ≤ octN W a t :=
  h (fun z => octN W z t ≤ octN W a t) (Int.le_refl _) (fun p k r hp e g => by have := octN_step w1 e g; omega)
theorem Tw.mid {W H : Int} {bl : Nat → Bool} {a t z : Int} (w1 : 1 ≤ W) (h : Tw W H bl a t z) : ∀ j, octN W z t ≤ j → j ≤ octN W a t → ∃ z', Tw W H bl a t z' ∧ octN W z' t = j := by
  have := h (fun z => Tw W H bl a t z ∧ ∀ j, octN W z t ≤ j → j ≤ octN W a t → ∃ z', Tw W H bl a t z' ∧ octN W z' t = j) ⟨Tw.nil, fun j h1 h2 => ⟨a, Tw.nil, by omega⟩⟩ (fun p k r hp e g => ⟨hp.1.step e g, fun j h1 h2 => by
    have := octN_step w1 e g
    by_cases q : octN W r t = j
    · exact ⟨r, hp.1.step e g, q⟩
    · exact hp.2 j (by omega) h2⟩)
  exact this.2

set_option maxHeartbeats 2000000 in
set_option maxRecDepth 1000000 in
theorem rspread_any {b : Nat} {W H V a t : Int} {bl : Nat → Bool} (w : World) (g : GridAt w b W H V bl) (s : StepsAt w) (d : DiagAt w) (hb : b < w.heap.size) (ha : inB W H a = true) (ht : inB W H t = true) :
    Calls Tryd.prog 88 #[.pointer (some ⟨b, 0, none⟩), .int .i64 a, .int .i64 t] w fun e w' => ∃ nb T, e = .returned (.map (some nb)) ∧ SetAt w' nb T ∧ (∀ z, T z = true ↔ Tw W H bl a t z) ∧ w.heap.size ≤ nb ∧ Below w.heap.size w w' := by
  have gw1 := g.w1
  have hwh := wh_bd g.w1 g.w2 g.h1 g.h2
  have hia : 0 ≤ a ∧ a < W * H := of_decide_eq_true ha
  have hwa := wf_small hia.1 (show a < 256 by omega)
  have hmm := @run_makeMap Tryd.prog
  have hM0 := (SetAt.made w).grown (World.grownBy_alloc (w.alloc (.map #[] 0)) (.map #[] 0) none) (by simp)
  have hM1 := SetAt.made (w.alloc (.map #[] 0))
  have hz0 : (w.alloc (.map #[] 0)).heap.size = w.heap.size + 1 := by simp
  have B0 : Below w.heap.size w ((w.alloc (.map #[] 0)).alloc (.map #[] 0)) := ((Below.refl _ _).alloc (Nat.le_refl _) _).alloc (by simp) _
  rw [hz0] at hM1
  go_enter Tryd.func88, Tryd.ntmps88
  go_wp2_with (first | (refine wpList_ins rfl _ _ _ 106 rfl 3 126 law3 Tryd.under106 (w.heap.size + 1) _ _ (by first | rfl | (rw [hz0]; rfl)) hM1.mp hM1.room a (.agg #[]) rfl rfl hwa ?_; intro w1 hm1 ht1; go_frame) | go_in)
  have hF0 := hM1.put hia.1 (show a < 256 by omega) hm1
  have hg1 := ht1.grown
  have hA0 := hM0.grown hg1 (fun e => by have := Option.some.inj e; omega)
  have B1 : Below w.heap.size w w1 := B0.grown hg1 (by simp; omega) (fun k e => by cases e; omega)
  clear hM0 hM1 hz0 B0 hm1 ht1 hg1 hmm
  have hn0 := octN_nonneg W a t
  go_loopg [8] (octN W a t + 1).toNat (fun gk fv wr => ∃ (i fb : Nat) (SF SA : Int → Bool), gk = (octN W a t + 1 - i).toNat ∧ fv = .map (some fb) ∧ w.heap.size < fb ∧ SetAt wr fb SF ∧ SetAt wr w.heap.size SA ∧ Hid (∀ z, SF z = true ↔ Tw W H bl a t z ∧ octN W z t + i = octN W a t) ∧ Hid (∀ z, SA z = true ↔ Tw W H bl a t z ∧ octN W a t < octN W z t + i) ∧ Below w.heap.size w wr)
  case atStart =>
    refine ⟨0, _, _, _, by simp, rfl, Nat.lt_succ_self _, hF0, hA0, fun z => ?_, fun z => ⟨fun h => (by cases h), fun ⟨h1, h2⟩ => ?_⟩, B1⟩
    · rw [insS_iff]
      constructor
      · rintro (rfl | h)
        · exact ⟨Tw.nil, by simp⟩
        · cases h
      · rintro ⟨h1, h2⟩
        rcases h1.inv with e | ⟨p, k, hp, e, hg⟩
        · exact Or.inl e
        · exfalso
          have h3 := octN_step gw1 e hg
          have h4 := Tw.top gw1 hp
          simp at h2
          omega
    · exfalso
      have h4 := Tw.top gw1 h1
      simp at h2
      omega
  case round =>
    obtain ⟨i, fb, SF, SA, hgk, rfl, hfb, hF, hA, hFi, hAi, hB⟩ := hrel
    have hlen := fun ty => hF.mp.len (t := 106) Tryd.under106 ty
    have hne := hF.ne_nil
    by_cases hpos : 0 < cntS SF 256
    · obtain ⟨z, hz⟩ := hne.1 hpos
      have hz' := (hFi.out z).1 hz
      have hzn := octN_nonneg W z t
      have hcp : (0 : Int) < ((cntS SF 256 : Nat) : Int) := by omega
      have hle : (i : Int) ≤ octN W a t := by omega
      clear hne hz hz' hzn
      have hmc := mcopy_any wr hA hF (Nat.ne_of_lt hfb)
      generalize cntS SF 256 = cn at *
      go_wp2_with fail
      refine hmc.mono ?_
      rintro e w2 ⟨rfl, ⟨T, hT, hTi⟩, hK⟩
      have hF2 : SetAt w2 fb SF := hF.kept (hK.block fb hF.lt (by omega))
      have B2 : Below w.heap.size w w2 := hB.trans (hK.to_below hB.size (fun k e => by omega))
      have hin : ∀ i, SF i = true → inB W H i = true := fun i hi => ((hFi.out i).1 hi).1.in gw1 ha
      have had := advance_any w2 (g.below B2 hb) (s.below B2 (by omega)) (d.below B2) (Nat.lt_of_lt_of_le hb B2.size) hF2 hin ht
      have z2 := B2.size
      clear hmc hlen hF hA hK
      go_wp2_with fail
      refine had.mono ?_
      rintro e w3 ⟨nb, T2, rfl, hT2, hT2i, hnb, hb3⟩
      have hT3 := hT.below hb3
      have B3 := B2.trans (hb3.mono B2.size)
      have hTl := hT.lt
      clear had hb3 hT hF2
      go_wp2
      go_roundg (octN W a t + 1 - ((i + 1 : Nat) : Int)).toNat
      case measure => omega
      case rel =>
        refine ⟨i + 1, nb, T2, T, rfl, rfl, by omega, hT2, hT3, fun z => ?_, fun z => ?_, B3⟩
        · rw [hT2i z]
          constructor
          · rintro ⟨c, k, h1, h2, h3⟩
            obtain ⟨q1, q2⟩ := (hFi.out c).1 h1
            have := octN_step gw1 h2 h3
            exact ⟨q1.step h2 h3, by omega⟩
          · rintro ⟨h1, h2⟩
            rcases h1.inv with e | ⟨p, k, hp, e, hg⟩
            · subst e; exfalso; omega
            · have := octN_step gw1 e hg
              exact ⟨p, k, (hFi.out p).2 ⟨hp, by omega⟩, e, hg⟩
        · rw [hTi z, hAi.out z, hFi.out z]
          constructor
          · rintro (⟨h1, h2⟩ | ⟨h1, h2⟩)
            · exact ⟨h1, by omega⟩
            · exact ⟨h1, by omega⟩
          · rintro ⟨h1, h2⟩
            by_cases q : octN W z t + i = octN W a t
            · exact Or.inr ⟨h1, q⟩
            · exact Or.inl ⟨h1, by omega⟩
    · have hno : ∀ z, SF z = false := fun z => by
        cases hz : SF z with
        | false => rfl
        | true => exact absurd (hne.2 ⟨z, hz⟩) hpos
      have hc0 : cntS SF 256 = 0 := by omega
      have hfin : ∀ z, SA z = true ↔ Tw W H bl a t z := fun z => by
        rw [hAi.out z]
        refine ⟨fun h => h.1, fun h => ⟨h, ?_⟩⟩
        by_cases q : octN W a t < octN W z t + i
        · exact q
        · exfalso
          obtain ⟨z', h1, h2⟩ := h.mid gw1 (octN W a t - i) (by omega) (by omega)
          have := (hFi.out z').2 ⟨h1, by omega⟩
          rw [hno z'] at this
          cases this
      have HF : Hid (∀ z, SA z = true ↔ Tw W H bl a t z) := hfin
      rw [hc0] at hlen
      clear hfin hno hne hpos hFi hAi
      go_wp2
      go_ret
      exact ⟨_, SA, rfl, hA, HF.out, Nat.le_refl _, hB⟩
end Go.Proofs.YtfhicijgpdpfpaaDoor
/-
  The cells on ways that cost as if nothing were in the way: package reach's 'between', 'hasCorner', 'next'.
-/
namespace Go.Proofs.YtfhicijgpdpfpaaDoor
open Go.RowKit

set_option maxHeartbeats 2000000 in
set_option maxRecDepth 1000000 in
theorem rbtw_any {b : Nat} {W H V a t : Int} {bl : Nat → Bool} (w : World) (g : GridAt w b W H V bl) (s : StepsAt w) (d : DiagAt w) (hb : b < w.heap.size) (ha : inB W H a = true) (ht : inB W H t = true) :
    Calls Tryd.prog 68 #[.pointer (some ⟨b, 0, none⟩), .int .i64 a, .int .i64 t] w fun e w' => ∃ nb T, e = .returned (.map (some nb)) ∧ SetAt w' nb T ∧ (∀ z, T z = true ↔ On W H bl a t z) ∧ w.heap.size ≤ nb ∧ Below w.heap.size w w' := by
  have hmm := @run_makeMap Tryd.prog
  have hM0 := SetAt.made w
  have hz0 : (w.alloc (.map #[] 0)).heap.size = w.heap.size + 1 := by simp
  have B0 : Below w.heap.size w (w.alloc (.map #[] 0)) := (Below.refl _ _).alloc (Nat.le_refl _) _
  have hsp := rspread_any (w.alloc (.map #[] 0)) (g.below B0 hb) (s.below B0 (by omega)) (d.below B0) (by omega) ht ha
  go_enter Tryd.func68, Tryd.ntmps68
  go_wp2_with fail
  refine hsp.mono ?_
  rintro e w1 ⟨kb, SB, rfl, hB, hBi, hkb, hb1⟩
  have hM1 := hM0.below hb1
  have B1 : Below w.heap.size w w1 := B0.trans (hb1.mono B0.size)
  have hb' : b < w1.heap.size := Nat.lt_of_lt_of_le hb B1.size
  have hsp2 := rspread_any w1 (g.below B1 hb) (s.below B1 (by omega)) (d.below B1) hb' ha ht
  rw [hz0] at hkb
  have HBi : Hid (∀ z, SB z = true ↔ Tw W H bl t a z) := hBi
  have hk1 := hB.lt
  clear hsp hM0 hz0 B0 hb1 hmm hBi
  go_wp2_with fail
  refine hsp2.mono ?_
  rintro e w2 ⟨fb, SF, rfl, hF, hFi, hfb, hb2⟩
  have hM2 := hM1.below hb2
  have hB2 := hB.below hb2
  have B2 : Below w.heap.size w w2 := B1.trans (hb2.mono B1.size)
  have HFi : Hid (∀ z, SF z = true ↔ Tw W H bl a t z) := hFi
  have hk2 := Nat.lt_of_lt_of_le hk1 hb2.size
  have hf2 := hF.lt
  have z2 := B1.size
  have hm2 := hM2.lt
  clear hM1 hB hb2 hsp2 hFi
  go_wp2_with (first | (at_range; refine wpList_rangeF rfl _ 106 rfl 3 126 law3 Tryd.under106 fb _ _ rfl hF.mp ?_; intro w0 hrg0 hg0 hs0) | go_in)
  have hM3 := hM2.grown hg0 (by simp)
  have hB3 := hB2.grown hg0 (by simp)
  have B3 : Below w.heap.size w w0 := B2.grown hg0 B2.size (by simp)
  generalize hr : w2.heap.size = r at *
  clear hM2 hB2 B2 hg0
  go_frame
  go_loopg [] (cntS SF 256) (fun gk wr => ∃ left cnt T, gk = cnt ∧ RngS wr fb r SF left cnt ∧ SetAt wr w.heap.size T ∧ SetAt wr kb SB ∧ Hid (∀ z, T z = true ↔ (SF z = true ∧ left z = false) ∧ SB z = true) ∧ Below w.heap.size w wr)
  case atStart =>
    refine ⟨_, _, _, rfl, hrg0, hM3, hB3, fun z => ⟨fun h => (by cases h), ?_⟩, B3⟩
    rintro ⟨⟨h1, h2⟩, _⟩
    rw [setF_isSome, h1] at h2
    cases h2
  case round =>
    obtain ⟨left, cnt, T, hgk, hrg, hT, hK, hall, hBw⟩ := hrel
    have hbz := hBw.size
    go_wp2_with (first | (at_next; refine wpList_nextF rfl _ rfl 3 law3 fb r _ _ _ _ rfl hrg ?_ ?_) | go_in)
    · intro hc0 hl0
      go_wp2
      go_ret
      refine ⟨_, T, rfl, hT, fun z => ?_, Nat.le_refl _, hBw⟩
      rw [hall.out z, HFi.out z, HBi.out z]
      exact ⟨fun h => ⟨h.1.1, h.2⟩, fun h => ⟨⟨h.1, hl0 z⟩, h.2⟩⟩
    · intro x v w4 cnt1 hwx hlx hfx hrg1 hlt hg1 hs1 hen
      obtain ⟨hSx, rfl⟩ := setF_val hfx
      have hx := hF.bd x hSx
      have hT1 := hT.grown hg1 (fun e => by have := Option.some.inj e; omega)
      have hK1 := hK.grown hg1 (fun e => by have := Option.some.inj e; omega)
      have B4 : Below w.heap.size w w4 := hBw.grown hg1 hbz (fun k e => by cases e; omega)
      have hT2 := hT1.grown (World.grownBy_alloc w4 (.cells #[] 126) none) (by simp)
      have hK2 := hK1.grown (World.grownBy_alloc w4 (.cells #[] 126) none) (by simp)
      have hrg2 := hrg1.grown (World.grownBy_alloc w4 (.cells #[] 126) none) (by simp) (by simp)
      have B5 := B4.alloc B4.size (.cells #[] 126)
      cases hSB : SB x with
      | false =>
        have hlk : (Instr.lookup 106 (.map (some kb)) (.int .i64 x) true).run Tryd.prog w4 = .ok (.tuple #[.agg #[], .bool false]) w4 := hK1.mp.look_none law3 Tryd.under106 (zero126 _) hwx (setF_none hSB) true
        clear hT hK hrg hBw hT1 hK1 B4 hg1
        go_wp2
        go_roundg cnt1
        case measure => omega
        case rel =>
          refine ⟨_, cnt1, T, rfl, hrg2, hT2, hK2, fun z => ?_, B5⟩
          rw [hall.out z]
          by_cases e : z = x
          · subst e; simp [hSB]
          · simp [e]
      | true =>
        have hlk : (Instr.lookup 106 (.map (some kb)) (.int .i64 x) true).run Tryd.prog w4 = .ok (.tuple #[.agg #[], .bool true]) w4 := hK1.mp.look_some law3 Tryd.under106 (zero126 _) hwx (setF_some hSB) true
        clear hT hK hrg hBw hT1 hK1 B4 hg1
        go_wp2_with (first | (at_mapUpdate; refine wpList_put rfl _ _ _ 106 rfl 3 126 law3 Tryd.under106 w.heap.size _ _ rfl hT2.mp hT2.room x (.agg #[]) rfl rfl hwx ?_; intro w5 hm5 ht5; go_frame) | go_in)
        have hT3 := hT2.put hx.1 hx.2 hm5
        have hg5 := ht5.grown
        have hrg3 := hrg2.grown hg5 (fun e => by have := Option.some.inj e; omega) (fun e => by have := Option.some.inj e; omega)
        have hK3 := hK2.grown hg5 (fun e => by have := Option.some.inj e; omega)
        have B6 : Below w.heap.size w w5 := B5.grown hg5 B5.size (fun k e => by cases e; exact Nat.le_refl _)
        go_roundg cnt1
        case measure => omega
        case rel =>
          refine ⟨_, cnt1, _, rfl, hrg3, hT3, hK3, fun z => ?_, B6⟩
          rw [insS_iff, hall.out z]
          by_cases e : z = x
          · subst e; simp [hSB, hSx]
          · simp [e]

set_option maxHeartbeats 2000000 in
set_option maxRecDepth 1000000 in
theorem hasCorner_any {b ob : Nat} {W H V a t : Int} {bl : Nat → Bool} {S : Int → Bool} (w : World) (g : GridAt w b W H V bl) (s : StepsAt w) (hb : b < w.heap.size) (hS : SetAt w ob S) (hin : ∀ i, S i = true → inB W H i = true) :
    Calls Tryd.prog 69 #[.pointer (some ⟨b, 0, none⟩), .map (some ob), .int .i64 a, .int .i64 t] w fun e w' => ∃ r, e = .returned (.bool r) ∧ (r = true ↔ ∃ c, S c = true ∧ cornB W H bl c = true ∧ c ≠ a ∧ c ≠ t) ∧ Below w.heap.size w w' := by
  have hob := hS.lt
  go_enter Tryd.func69, Tryd.ntmps69
  go_wp2_with (first | (at_range; refine wpList_rangeF rfl _ 106 rfl 3 126 law3 Tryd.under106 ob _ _ rfl hS.mp ?_; intro w0 hrg0 hg0 hs0) | go_in)
  have B0 : Below w.heap.size w w0 := (Below.refl _ _).grown hg0 (Nat.le_refl _) (by simp)
  go_frame
  go_loopg [] (cntS S 256) (fun gk wr => ∃ left cnt, gk = cnt ∧ RngS wr ob w.heap.size S left cnt ∧ Hid (∀ c, S c = true → left c = false → ¬ (cornB W H bl c = true ∧ c ≠ a ∧ c ≠ t)) ∧ Below w.heap.size w wr)
  case atStart =>
    refine ⟨_, _, rfl, hrg0, fun c h1 h2 => ?_, B0⟩
    rw [setF_isSome, h1] at h2
    cases h2
  case round =>
    obtain ⟨left, cnt, hgk, hrg, hall, hBw⟩ := hrel
    have hbz := hBw.size
    go_wp2_with (first | (at_next; refine wpList_nextF rfl _ rfl 3 law3 ob w.heap.size _ _ _ _ rfl hrg ?_ ?_) | go_in)
    · intro hc0 hl0
      go_wp2
      go_ret
      refine ⟨false, rfl, ⟨fun h => (by cases h), ?_⟩, hBw⟩
      rintro ⟨c, h1, h2⟩
      exact absurd h2 (hall.out c h1 (hl0 c))
    · intro x v w4 cnt1 hwx hlx hfx hrg1 hlt hg1 hs1 hen
      obtain ⟨hSx, rfl⟩ := setF_val hfx
      have hxin := hin x hSx
      have B4 : Below w.heap.size w w4 := hBw.grown hg1 hbz (fun k e => by cases e; omega)
      have g4 := g.below B4 hb
      have s4 := s.below B4 (by omega)
      have more : ¬ (cornB W H bl x = true ∧ x ≠ a ∧ x ≠ t) → Hid (∀ c, S c = true → (left c && !decide (c = x)) = false → ¬ (cornB W H bl c = true ∧ c ≠ a ∧ c ≠ t)) := fun h c h1 h2 => by
        by_cases e : c = x
        · rw [e]; exact h
        · rw [decide_eq_false e] at h2
          exact hall.out c h1 (by simpa using h2)
      clear hrg hBw hg1 B0 hrg0 hg0
      cases hC : cornB W H bl x with
      | false =>
        have HM := more (fun h => by rw [hC] at h; cases h.1)
        clear more
        go_wp2_with (go_at_call 30; refine (is_v hC _ g4 s4 hxin).mono ?_; rintro e w' ⟨rfl, m, rfl⟩)
        go_roundg cnt1
        case measure => omega
        case rel => exact ⟨_, cnt1, rfl, hrg1, HM, below_drewN B4 _⟩
      | true =>
        by_cases ea : x = a
        · have HM := more (fun h => h.2.1 ea)
          clear more
          subst ea
          go_wp2_with (go_at_call 30; refine (is_v hC _ g4 s4 hxin).mono ?_; rintro e w' ⟨rfl, m, rfl⟩)
          go_roundg cnt1
          case measure => omega
          case rel => exact ⟨_, cnt1, rfl, hrg1, HM, below_drewN B4 _⟩
        · by_cases et : x = t
          · have HM := more (fun h => h.2.2 et)
            clear more
            subst et
            go_wp2_with (go_at_call 30; refine (is_v hC _ g4 s4 hxin).mono ?_; rintro e w' ⟨rfl, m, rfl⟩)
            go_roundg cnt1
            case measure => omega
            case rel => exact ⟨_, cnt1, rfl, hrg1, HM, below_drewN B4 _⟩
          · clear more
            have na : (x != a) = true := bne_iff_ne.2 ea
            have nt : (x != t) = true := bne_iff_ne.2 et
            go_wp2_with (go_at_call 30; refine (is_v hC _ g4 s4 hxin).mono ?_; rintro e w' ⟨rfl, m, rfl⟩)
            go_ret
            exact ⟨true, rfl, ⟨fun _ => ⟨x, hSx, hC, ea, et⟩, fun _ => rfl⟩, below_drewN B4 _⟩

set_option maxHeartbeats 2000000 in
set_option maxRecDepth 1000000 in
theorem rnext_any {b ob : Nat} {W H V c t : Int} {bl : Nat → Bool} {S : Int → Bool} {l : List Nat} (hl : onw W H bl c t 8 = l) (w : World) (g : GridAt w b W H V bl) (s : StepsAt w) (d : DiagAt w) (hb : b < w.heap.size) (hS : SetAt w ob S) (hc : inB W H c = true) (ht : inB W H t = true) :
    Calls Tryd.prog 70 #[.pointer (some ⟨b, 0, none⟩), .map (some ob), .int .i64 c, .int .i64 t] w fun e w' => Below w.heap.size w w' ∧
      ((∃ i, i < l.length ∧ S ((l.getD i 0 : Nat) : Int) = true ∧ (∀ j, j < i → S ((l.getD j 0 : Nat) : Int) = false) ∧ e = .returned (.tuple #[.int .i64 ((l.getD i 0 : Nat) : Int), .bool true])) ∨
       ((∀ i, i < l.length → S ((l.getD i 0 : Nat) : Int) = false) ∧ e = .returned (.tuple #[.int .i64 0, .bool false]))) := by
  have gw1 := g.w1
  have hwh := wh_bd g.w1 g.w2 g.h1 g.h2
  have hob := hS.lt
  have hll : l.length ≤ 8 := by rw [← hl]; exact onw_len _ _ _ _ _ _
  have HZ : Hid (∀ j, j < l.length → (0 : Int) ≤ ((l.getD j 0 : Nat) : Int) ∧ ((l.getD j 0 : Nat) : Int) < 256) := fun j hj => by
    obtain ⟨k, e, _⟩ := (onw_row (z := ((l.getD j 0 : Nat) : Int)) gw1 hc hl).1 ⟨j, hj, rfl⟩
    have : 0 ≤ ((l.getD j 0 : Nat) : Int) ∧ ((l.getD j 0 : Nat) : Int) < W * H := of_decide_eq_true (e.in' gw1)
    omega
  have hon := onward_v hl w g s d hb hc ht
  clear hl
  go_enter Tryd.func70, Tryd.ntmps70
  go_wp2_with fail
  refine hon.mono ?_
  rintro e w1 ⟨A, cap, rfl, hrow, hb1⟩
  have hS1 := hS.below hb1
  clear hon hS
  go_wp2
  go_loopg [19] l.length (fun gj iv wr => ∃ j : Nat, gj = l.length - j ∧ iv = .int .i64 j ∧ j ≤ l.length ∧ SetAt wr ob S ∧ Hid (∀ i, i < j → S ((l.getD i 0 : Nat) : Int) = false) ∧ OldRow wr A l.length (fun i => (l.getD i 0 : Nat)) ∧ Below w.heap.size w wr)
  case atStart => exact ⟨0, rfl, rfl, Nat.zero_le _, hS1, fun i hi => absurd hi (by omega), hrow, hb1⟩
  case round =>
    obtain ⟨j, hgj, rfl, hj, hT, hno, hrow', hB⟩ := hrel
    by_cases hlj : j < l.length
    · obtain ⟨ba, oa, rfl, hba, hcell⟩ := hrow' j hlj
      obtain ⟨z0, z1⟩ := HZ.out j hlj
      have hcell' : wr.cell? ⟨ba, oa + j, none⟩ = some (.int .i64 ((l.getD j 0 : Nat) : Int)) := hcell
      clear hcell
      obtain ⟨zz, hzz⟩ : ∃ zz, ((l.getD j 0 : Nat) : Int) = zz := ⟨_, rfl⟩
      have HZZ : Hid (((l.getD j 0 : Nat) : Int) = zz) := hzz
      rw [hzz] at hcell' z0 z1
      clear hzz
      have i1 : (0 : Int) ≤ (j : Int) := by omega
      have i2 : (j : Int) < (l.length : Int) := by omega
      have bA : Below wr.heap.size wr (wr.alloc (.cells #[] 126)) := (Below.refl _ _).alloc (Nat.le_refl _) _
      have hT2 := hT.below bA
      have hB2 := hB.trans (bA.mono hB.size)
      have hrow2 := hrow'.below bA
      cases hSz : S zz with
      | false =>
        have hlk : (Instr.lookup 106 (.map (some ob)) (.int .i64 zz) true).run Tryd.prog wr = .ok (.tuple #[.agg #[], .bool false]) wr := hT.mp.look_none law3 Tryd.under106 (zero126 _) (wf_small z0 z1) (setF_none hSz) true
        clear hT hB hrow' bA
        go_wp2
        go_roundg (l.length - (j + 1))
        case measure => omega
        case rel =>
          refine ⟨j + 1, rfl, by go_num, by omega, hT2, fun i hi => ?_, hrow2, hB2⟩
          by_cases e : i = j
          · rw [e, HZZ.out]; exact hSz
          · exact hno.out i (by omega)
      | true =>
        have hlk : (Instr.lookup 106 (.map (some ob)) (.int .i64 zz) true).run Tryd.prog wr = .ok (.tuple #[.agg #[], .bool true]) wr := hT.mp.look_some law3 Tryd.under106 (zero126 _) (wf_small z0 z1) (setF_some hSz) true
        clear hT hB hrow' bA
        go_wp2
        go_ret2
        exact ⟨hB2, Or.inl ⟨j, hlj, by rw [HZZ.out]; exact hSz, hno.out, by rw [HZZ.out]; rfl⟩⟩
    · have e : j = l.length := by omega
      subst e
      go_wp2
      go_ret2
      exact ⟨hB, Or.inr ⟨hno.out, rfl⟩⟩
end Go.Proofs.YtfhicijgpdpfpaaDoor
/-
  Package reach: Near, Direct, Way.
-/
namespace Go.Proofs.YtfhicijgpdpfpaaDoor
open Go.RowKit

/-- what is wrong with two cells, the first one's first -/
def ff2 (W H : Int) (bl : Nat → Bool) (a t : Int) : Int := if ffv W H bl a = 0 then ffv W H bl t else ffv W H bl a
theorem ff2_ok {W H : Int} {bl : Nat → Bool} {a t : Int} (h : ff2 W H bl a t = 0) : (inB W H a = true ∧ bl a.toNat = false) ∧ (inB W H t = true ∧ bl t.toNat = false) := by
  have one : ∀ c, ffv W H bl c = 0 → inB W H c = true ∧ bl c.toNat = false := fun c h => by
    unfold ffv at h
    cases h1 : inB W H c with
    | false => rw [h1] at h; cases h
    | true =>
      cases h2 : bl c.toNat with
      | false => exact ⟨rfl, rfl⟩
      | true => rw [h1, h2] at h; cases h
  unfold ff2 at h
  split at h
  · rename_i h1; exact ⟨one a h1, one t h⟩
  · rename_i h1; exact absurd h h1
theorem errV_nil : errV 0 = .nilIface := rfl
theorem errV_some {n : Int} (h : n ≠ 0) : errV n = .iface 78 (.int .i64 n) := by unfold errV; rw [if_neg h]

set_option maxHeartbeats 400000 in
theorem check2_any {b : Nat} {W H V : Int} {bl : Nat → Bool} (a t : Int) (w : World) (g : GridAt w b W H V bl) (hb : b < w.heap.size) :
    Calls Tryd.prog 67 #[.pointer (some ⟨b, 0, none⟩), .int .i64 a, .int .i64 t] w fun e w' => e = .returned (errV (ff2 W H bl a t)) ∧ Below w.heap.size w w' := by
  have h1 := check_any a w g
  unfold ff2
  by_cases h : ffv W H bl a = 0
  · rw [if_pos h]
    rw [h, errV_nil] at h1
    go_enter Tryd.func67, Tryd.ntmps67
    go_wp2_with fail
    refine h1.mono ?_
    rintro e w1 ⟨rfl, hb1⟩
    have h2 := check_any t w1 (g.below hb1 hb)
    clear h1
    go_wp2_with fail
    refine h2.mono ?_
    rintro e w2 ⟨rfl, hb2⟩
    clear h2
    go_wp2
    go_ret
    exact ⟨rfl, hb1.trans (hb2.mono hb1.size)⟩
  · rw [if_neg h]
    rw [errV_some h] at h1 ⊢
    go_enter Tryd.func67, Tryd.ntmps67
    go_wp2_with fail
    refine h1.mono ?_
    rintro e w1 ⟨rfl, hb1⟩
    clear h1
    go_wp2
    go_ret
    exact ⟨rfl, hb1⟩

set_option maxHeartbeats 400000 in
theorem near_err {b : Nat} {W H V : Int} {bl : Nat → Bool} (a t : Int) (w : World) (g : GridAt w b W H V bl) (hb : b < w.heap.size) (hf : ff2 W H bl a t ≠ 0) :
    Calls Tryd.prog 36 #[.pointer (some ⟨b, 0, none⟩), .int .i64 a, .int .i64 t] w fun e w' => e = .returned (.tuple #[.bool false, errV (ff2 W H bl a t)]) ∧ Below w.heap.size w w' := by
  have h1 := check2_any a t w g hb
  rw [errV_some hf] at h1 ⊢
  go_enter Tryd.func36, Tryd.ntmps36
  go_wp2_with fail
  refine h1.mono ?_
  rintro e w1 ⟨rfl, hb1⟩
  clear h1
  go_wp2
  go_ret2
  exact ⟨rfl, hb1⟩
set_option maxHeartbeats 400000 in
theorem direct_err {b : Nat} {W H V : Int} {bl : Nat → Bool} (a t : Int) (w : World) (g : GridAt w b W H V bl) (hb : b < w.heap.size) (hf : ff2 W H bl a t ≠ 0) :
    Calls Tryd.prog 37 #[.pointer (some ⟨b, 0, none⟩), .int .i64 a, .int .i64 t] w fun e w' => e = .returned (.tuple #[.bool false, errV (ff2 W H bl a t)]) ∧ Below w.heap.size w w' := by
  have h1 := check2_any a t w g hb
  rw [errV_some hf] at h1 ⊢
  go_enter Tryd.func37, Tryd.ntmps37
  go_wp2_with fail
  refine h1.mono ?_
  rintro e w1 ⟨rfl, hb1⟩
  clear h1
  go_wp2
  go_ret2
  exact ⟨rfl, hb1⟩
set_option maxHeartbeats 400000 in
theorem rway_err {b : Nat} {W H V : Int} {bl : Nat → Bool} (a t : Int) (w : World) (g : GridAt w b W H V bl) (hb : b < w.heap.size) (hf : ff2 W H bl a t ≠ 0) :
    Calls Tryd.prog 38 #[.pointer (some ⟨b, 0, none⟩), .int .i64 a, .int .i64 t] w fun e w' => e = .returned (.tuple #[.slice none 0 0, errV (ff2 W H bl a t)]) ∧ Below w.heap.size w w' := by
  have h1 := check2_any a t w g hb
  rw [errV_some hf] at h1 ⊢
  go_enter Tryd.func38, Tryd.ntmps38
  go_wp2_with fail
  refine h1.mono ?_
  rintro e w1 ⟨rfl, hb1⟩
  clear h1
  go_wp2
  go_ret2
  exact ⟨rfl, hb1⟩

set_option maxHeartbeats 1000000 in
theorem near_ok {b : Nat} {W H V : Int} {bl : Nat → Bool} (a t : Int) (w : World) (g : GridAt w b W H V bl) (s : StepsAt w) (d : DiagAt w) (hb : b < w.heap.size) (hf : ff2 W H bl a t = 0) :
    Calls Tryd.prog 36 #[.pointer (some ⟨b, 0, none⟩), .int .i64 a, .int .i64 t] w fun e w' => ∃ r, e = .returned (.tuple #[.bool r, .nilIface]) ∧ (r = true ↔ ∃ z, On W H bl a t z) ∧ Below w.heap.size w w' := by
  have h1 := check2_any a t w g hb
  rw [hf, errV_nil] at h1
  obtain ⟨⟨ha, _⟩, ⟨ht, _⟩⟩ := ff2_ok hf
  go_enter Tryd.func36, Tryd.ntmps36
  go_wp2_with fail
  refine h1.mono ?_
  rintro e w1 ⟨rfl, hb1⟩
  have h2 := rbtw_any w1 (g.below hb1 hb) (s.below hb1 (by omega)) (d.below hb1) (Nat.lt_of_lt_of_le hb hb1.size) ha ht
  clear h1
  go_wp2_with fail
  refine h2.mono ?_
  rintro e w2 ⟨nb, T, rfl, hT, hTi, _, hb2⟩
  have B2 := hb1.trans (hb2.mono hb1.size)
  have hne := hT.ne_nil
  have hlen := fun ty => hT.mp.len (t := 106) Tryd.under106 ty
  have hex : (∃ z, T z = true) ↔ ∃ z, On W H bl a t z := ⟨fun ⟨z, h⟩ => ⟨z, (hTi z).1 h⟩, fun ⟨z, h⟩ => ⟨z, (hTi z).2 h⟩⟩
  rw [hex] at hne
  clear h2 hb2 hT hTi hex
  generalize cntS T 256 = cn at *
  by_cases hp : 0 < cn
  · have hp' : (0 : Int) < (cn : Int) := by omega
    have HN := hne.1 hp
    clear hne
    go_wp2
    go_ret2
    exact ⟨true, rfl, ⟨fun _ => HN, fun _ => rfl⟩, B2⟩
  · have HN : ¬ ∃ z, On W H bl a t z := fun h => hp (hne.2 h)
    obtain rfl : cn = 0 := by omega
    clear hne hp
    go_wp2
    go_ret2
    exact ⟨false, rfl, ⟨fun h => (by cases h), fun h => absurd h HN⟩, B2⟩

set_option maxHeartbeats 1000000 in
theorem direct_ok {b : Nat} {W H V : Int} {bl : Nat → Bool} (a t : Int) (w : World) (g : GridAt w b W H V bl) (s : StepsAt w) (d : DiagAt w) (hb : b < w.heap.size) (hf : ff2 W H bl a t = 0) :
    Calls Tryd.prog 37 #[.pointer (some ⟨b, 0, none⟩), .int .i64 a, .int .i64 t] w fun e w' => ∃ r, e = .returned (.tuple #[.bool r, .nilIface]) ∧ (r = true ↔ (∃ z, On W H bl a t z) ∧ ¬ ∃ c, On W H bl a t c ∧ cornB W H bl c = true ∧ c ≠ a ∧ c ≠ t) ∧ Below w.heap.size w w' := by
  have h1 := check2_any a t w g hb
  rw [hf, errV_nil] at h1
  obtain ⟨⟨ha, _⟩, ⟨ht, _⟩⟩ := ff2_ok hf
  have gw1 := g.w1
  go_enter Tryd.func37, Tryd.ntmps37
  go_wp2_with fail
  refine h1.mono ?_
  rintro e w1 ⟨rfl, hb1⟩
  have h2 := rbtw_any w1 (g.below hb1 hb) (s.below hb1 (by omega)) (d.below hb1) (Nat.lt_of_lt_of_le hb hb1.size) ha ht
  clear h1
  go_wp2_with fail
  refine h2.mono ?_
  rintro e w2 ⟨nb, T, rfl, hT, hTi, _, hb2⟩
  have B2 := hb1.trans (hb2.mono hb1.size)
  have hne := hT.ne_nil
  have hlen := fun ty => hT.mp.len (t := 106) Tryd.under106 ty
  have hex : (∃ z, T z = true) ↔ ∃ z, On W H bl a t z := ⟨fun ⟨z, h⟩ => ⟨z, (hTi z).1 h⟩, fun ⟨z, h⟩ => ⟨z, (hTi z).2 h⟩⟩
  have hco : (∃ c, T c = true ∧ cornB W H bl c = true ∧ c ≠ a ∧ c ≠ t) ↔ ∃ c, On W H bl a t c ∧ cornB W H bl c = true ∧ c ≠ a ∧ c ≠ t := ⟨fun ⟨z, h, k⟩ => ⟨z, (hTi z).1 h, k⟩, fun ⟨z, h, k⟩ => ⟨z, (hTi z).2 h, k⟩⟩
  rw [hex] at hne
  have hin : ∀ i, T i = true → inB W H i = true := fun i hi => ((hTi i).1 hi).1.in gw1 ha
  have h3 := hasCorner_any (a := a) (t := t) w2 (g.below B2 hb) (s.below B2 (by omega)) (Nat.lt_of_lt_of_le hb B2.size) hT hin
  rw [hco] at h3
  clear h2 hb2 hT hTi hex hco hin
  generalize cntS T 256 = cn at *
  by_cases hp : 0 < cn
  · have hp' : (0 : Int) < (cn : Int) := by omega
    have HN := hne.1 hp
    clear hne
    go_wp2_with fail
    refine h3.mono ?_
    rintro e w3 ⟨r, rfl, hr, hb3⟩
    clear h3 hlen
    cases r with
    | false =>
      go_wp2
      go_ret2
      exact ⟨true, rfl, ⟨fun _ => ⟨HN, fun h => by cases hr.2 h⟩, fun _ => rfl⟩, B2.trans (hb3.mono B2.size)⟩
    | true =>
      go_wp2
      go_ret2
      exact ⟨false, rfl, ⟨fun h => (by cases h), fun h => absurd (hr.1 (by trivial)) h.2⟩, B2.trans (hb3.mono B2.size)⟩
  · have HN : ¬ ∃ z, On W H bl a t z := fun h => hp (hne.2 h)
    obtain rfl : cn = 0 := by omega
    clear hne hp h3
    go_wp2
    go_ret2
    exact ⟨false, rfl, ⟨fun h => (by cases h), fun h => absurd h.1 HN⟩, B2⟩

set_option maxHeartbeats 1000000 in
theorem rway_none {b : Nat} {W H V : Int} {bl : Nat → Bool} (a t : Int) (w : World) (g : GridAt w b W H V bl) (s : StepsAt w) (d : DiagAt w) (hb : b < w.heap.size) (hf : ff2 W H bl a t = 0) (hno : ¬ ∃ z, On W H bl a t z) :
    Calls Tryd.prog 38 #[.pointer (some ⟨b, 0, none⟩), .int .i64 a, .int .i64 t] w fun e w' => e = .returned (.tuple #[.slice none 0 0, .iface 78 (.int .i64 5)]) ∧ Below w.heap.size w w' := by
  have h1 := check2_any a t w g hb
  rw [hf, errV_nil] at h1
  obtain ⟨⟨ha, _⟩, ⟨ht, _⟩⟩ := ff2_ok hf
  go_enter Tryd.func38, Tryd.ntmps38
  go_wp2_with fail
  refine h1.mono ?_
  rintro e w1 ⟨rfl, hb1⟩
  have h2 := rbtw_any w1 (g.below hb1 hb) (s.below hb1 (by omega)) (d.below hb1) (Nat.lt_of_lt_of_le hb hb1.size) ha ht
  clear h1
  go_wp2_with fail
  refine h2.mono ?_
  rintro e w2 ⟨nb, T, rfl, hT, hTi, _, hb2⟩
  have B2 := hb1.trans (hb2.mono hb1.size)
  have hlen := fun ty => hT.mp.len (t := 106) Tryd.under106 ty
  have hc0 : cntS T 256 = 0 := by
    by_cases hp : 0 < cntS T 256
    · obtain ⟨z, hz⟩ := hT.ne_nil.1 hp
      exact absurd ⟨z, (hTi z).1 hz⟩ hno
    · omega
  rw [hc0] at hlen
  clear h2 hb2 hT hTi hno
  go_wp2
  go_ret2
  exact ⟨rfl, B2⟩
end Go.Proofs.YtfhicijgpdpfpaaDoor
