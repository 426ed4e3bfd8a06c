/-
  Texts laid together: GraphM, WayM, Corner, Towards.
-/
import Derived.Test.YtfhicijgpdpfpaaDoorP13
import Derived.Deep.LoopGhost
/-
  Corners are enough: between two corners there is a chain of corners, each directly near the next, that costs what the shortest way costs.
-/
namespace Go.Proofs.YtfhicijgpdpfpaaDoor

/-- what it costs between two cells if nothing is in the way -/
def octS (W a b : Int) : Int := dst (dst (a % W) (b % W)) (dst (a / W) (b / W))
def octD (W a b : Int) : Int := les (dst (a % W) (b % W)) (dst (a / W) (b / W))
/-- near: it costs as if nothing were in the way -/
def NearF (W : Int) (Fl : Int → Int → Option (Int × Int)) (a b : Int) : Prop := Fl a b = some (octS W a b, octD W a b)
/-- is a cell a corner? -/
def CornC (W H : Int) (bl : Nat → Bool) (c : Int) : Prop := Corn W H bl (c % W) (c / W)
/-- directly near: no other corner is on any such way -/
def DirF (W H : Int) (bl : Nat → Bool) (Fl : Int → Int → Option (Int × Int)) (a b : Int) : Prop :=
  NearF W Fl a b ∧ ∀ k s d t u, CornC W H bl k → k ≠ a → k ≠ b → Fl a k = some (s, d) → Fl b k = some (t, u) → ¬ (s + t = octS W a b ∧ d + u = octD W a b)
/-- a chain -/
def Chn (P : Int → Int → Prop) : Int → List Int → Int → Prop
  | a, [], b => a = b
  | a, c :: l, b => P a c ∧ Chn P c l b
/-- what it costs -/
def sumS (W : Int) : Int → List Int → Int
  | _, [] => 0
  | a, c :: l => octS W a c + sumS W c l
def sumD (W : Int) : Int → List Int → Int
  | _, [] => 0
  | a, c :: l => octD W a c + sumD W c l
theorem Chn.app {P : Int → Int → Prop} {W : Int} : ∀ {l1 l2 : List Int} {a c b : Int}, Chn P a l1 c → Chn P c l2 b → Chn P a (l1 ++ l2) b ∧ sumS W a (l1 ++ l2) = sumS W a l1 + sumS W c l2 ∧ sumD W a (l1 ++ l2) = sumD W a l1 + sumD W c l2
  | [], l2, a, c, b, h, k => by
    have e : a = c := h
    subst e
    exact ⟨k, (Int.zero_add _).symm, (Int.zero_add _).symm⟩
  | x :: l1, l2, a, c, b, ⟨h1, h2⟩, k => by
    obtain ⟨g1, g2, g3⟩ := Chn.app (W := W) h2 k
    refine ⟨⟨h1, g1⟩, ?_, ?_⟩
    · show octS W a x + sumS W x (l1 ++ l2) = octS W a x + sumS W x l1 + sumS W c l2; omega
    · show octD W a x + sumD W x (l1 ++ l2) = octD W a x + sumD W x l1 + sumD W c l2; omega

variable {W H : Int} {bl : Nat → Bool} {Fl : Int → Int → Option (Int × Int)}

theorem val_zero {E : Int → Nat → Int → Prop} {o a s d : Int} (h : Wk E o a s d) (hv : val s d ≤ 0) : a = o := by
  rcases h.inv with ⟨h1, _⟩ | ⟨a', s', d', k, h1, _, h2, h3⟩
  · exact h1
  · obtain ⟨n1, n2⟩ := h1.nonneg
    have := (val_st k).1
    rw [h2, h3, val_add] at hv
    have : 0 ≤ val s' d' := by unfold val; omega
    omega

theorem corners_enough (w1 : 1 ≤ W) (B : ∀ c, CornC W H bl c → Best (Edge W H bl) c (Fl c)) : ∀ (n : Nat) (a b s d : Int), CornC W H bl a → CornC W H bl b → Fl a b = some (s, d) → val s d ≤ n →
    ∃ l, (∀ c ∈ l, CornC W H bl c) ∧ Chn (DirF W H bl Fl) a l b ∧ sumS W a l = s ∧ sumD W a l = d := by
  intro n
  induction n with
  | zero =>
    intro a b s d ha hb hF hv
    obtain ⟨n1, n2, _⟩ := (B a ha).small hF
    have e : b = a := val_zero ((B a ha).sound hF) (by simpa using hv)
    have : s = 0 ∧ d = 0 := by unfold val at hv; omega
    exact ⟨[], fun _ h => absurd h List.not_mem_nil, e.symm, this.1.symm, this.2.symm⟩
  | succ n ih =>
    intro a b s d ha hb hF hv
    have via : ∀ k s1 d1 t u, CornC W H bl k → Fl a k = some (s1, d1) → Fl b k = some (t, u) → s1 + t = s → d1 + u = d → 0 < val s1 d1 → 0 < val t u →
        ∃ l, (∀ c ∈ l, CornC W H bl c) ∧ Chn (DirF W H bl Fl) a l b ∧ sumS W a l = s ∧ sumD W a l = d := by
      intro k s1 d1 t u hk h1 h2 h3 h4 p1 p2
      have hv2 : val s1 d1 + val t u = val s d := by rw [← val_add, h3, h4]
      have h2' : Fl k b = some (t, u) := (B b hb).sym w1 (B k hk) h2
      obtain ⟨l1, a1, a2, a3, a4⟩ := ih a k s1 d1 ha hk h1 (by omega)
      obtain ⟨l2, b1, b2, b3, b4⟩ := ih k b t u hk hb h2' (by omega)
      obtain ⟨c1, c2, c3⟩ := Chn.app (W := W) a2 b2
      exact ⟨l1 ++ l2, fun c hc => (List.mem_append.1 hc).elim (a1 c) (b1 c), c1, by rw [c2, a3, b3]; exact h3, by rw [c3, a4, b4]; exact h4⟩
    by_cases hnr : NearF W Fl a b
    · have hp : s = octS W a b ∧ d = octD W a b := by
        unfold NearF at hnr
        rw [hF] at hnr
        cases hnr
        exact ⟨rfl, rfl⟩
      by_cases hd : DirF W H bl Fl a b
      · exact ⟨[b], fun c hc => by rw [List.mem_singleton.1 hc]; exact hb, ⟨hd, rfl⟩, by rw [hp.1]; show octS W a b + 0 = _; omega, by rw [hp.2]; show octD W a b + 0 = _; omega⟩
      · have : ∃ k s1 d1 t u, CornC W H bl k ∧ k ≠ a ∧ k ≠ b ∧ Fl a k = some (s1, d1) ∧ Fl b k = some (t, u) ∧ s1 + t = octS W a b ∧ d1 + u = octD W a b := by
          apply Classical.byContradiction
          intro hno
          exact hd ⟨hnr, fun k s1 d1 t u c1 c2 c3 c4 c5 c6 => hno ⟨k, s1, d1, t, u, c1, c2, c3, c4, c5, c6.1, c6.2⟩⟩
        obtain ⟨k, s1, d1, t, u, c1, c2, c3, c4, c5, c6, c7⟩ := this
        refine via k s1 d1 t u c1 c4 c5 (by rw [c6, hp.1]) (by rw [c7, hp.2]) ?_ ?_
        · apply Classical.byContradiction
          intro q
          exact c2 (val_zero ((B a ha).sound c4) (by omega))
        · apply Classical.byContradiction
          intro q
          exact c3 (val_zero ((B b hb).sound c5) (by omega))
    · have hne : val s d ≠ val (octS W a b) (octD W a b) := by
        intro q
        obtain ⟨n1, n2, n3⟩ := (B a ha).small hF
        have sm := val_small n1 n2 n3
        have lo := oct_low w1 ((B a ha).sound hF)
        have o1 : 0 ≤ octD W a b := by unfold octD les dst; split <;> split <;> split <;> omega
        have o2 : 0 ≤ octS W a b := by unfold octS dst; split <;> omega
        have o3 : octD W a b ≤ 256 := by
          have : val (octS W a b) (octD W a b) ≤ 13979748608 := by rw [← q]; exact n3
          exact (val_small o2 o1 this).2
        obtain ⟨q1, q2⟩ := val_inj s d (octS W a b) (octD W a b) (by omega) (by omega) q
        apply hnr
        unfold NearF
        rw [hF, q1, q2]
      obtain ⟨k, s1, d1, t, u, c1, c2, c3, c4, c5, c6, c7⟩ := corner_on w1 (B a ha) (B b hb) hF hne
      exact via k s1 d1 t u c7 c1 c2 c3 c4 c5 c6
end Go.Proofs.YtfhicijgpdpfpaaDoor
/-
  Steps on ways that cost as if nothing were in the way: at each place at most one straight step and at most one diagonal step brings one nearer by what it costs.
-/
namespace Go.Proofs.YtfhicijgpdpfpaaDoor

/-- a step from (x, y) that is not lost on the way to (u, v) -/
def Good (x y u v : Int) (k : Nat) : Prop :=
  dst (dst (x + stepX k) u) (dst (y + stepY k) v) + stS k = dst (dst x u) (dst y v) ∧ les (dst (x + stepX k) u) (dst (y + stepY k) v) + stD k = les (dst x u) (dst y v)

theorem dst_step (x u s : Int) (h : s = -1 ∨ s = 0 ∨ s = 1) : (s = 0 → dst (x + s) u = dst x u) ∧ dst x u - 1 ≤ dst (x + s) u ∧ (dst (x + s) u = dst x u - 1 → (s = 1 ∧ x < u) ∨ (s = -1 ∧ u < x)) := by
  unfold dst
  rcases h with rfl | rfl | rfl <;> refine ⟨fun _ => ?_, ?_, fun _ => ?_⟩ <;> (repeat' split at *) <;> omega
theorem two_less {X Y P Q : Int} (h1 : dst P Q + 0 = dst X Y) (h2 : les P Q + 1 = les X Y) : P + Q = X + Y - 2 := by
  unfold dst les at *
  (repeat' split at *) <;> omega
theorem one_less {X Y P Q : Int} (h1 : dst P Q + 1 = dst X Y) (h2 : les P Q + 0 = les X Y) : P + Q = X + Y - 1 ∧ (P = X - 1 → Y < X) ∧ (Q = Y - 1 → X < Y) := by
  unfold dst les at *
  (repeat' split at *) <;> omega
theorem step_unit (k : Nat) (h : k < 8) : (stepX k = -1 ∨ stepX k = 0 ∨ stepX k = 1) ∧ (stepY k = -1 ∨ stepY k = 0 ∨ stepY k = 1) ∧ (k % 2 = 0 → (stepX k = 0 ∧ stepY k ≠ 0) ∨ (stepY k = 0 ∧ stepX k ≠ 0)) ∧ (k % 2 = 0 → stS k = 1 ∧ stD k = 0) ∧ (k % 2 = 1 → stS k = 0 ∧ stD k = 1) := by
  rcases k8 h with rfl | rfl | rfl | rfl | rfl | rfl | rfl | rfl <;> decide

theorem good_dir {x y u v : Int} {k : Nat} (hk : k < 8) (g : Good x y u v k) :
    (k % 2 = 1 → ((stepX k = 1 ∧ x < u) ∨ (stepX k = -1 ∧ u < x)) ∧ ((stepY k = 1 ∧ y < v) ∨ (stepY k = -1 ∧ v < y))) ∧
    (k % 2 = 0 → (stepY k = 0 ∧ ((stepX k = 1 ∧ x < u) ∨ (stepX k = -1 ∧ u < x)) ∧ dst y v < dst x u) ∨ (stepX k = 0 ∧ ((stepY k = 1 ∧ y < v) ∨ (stepY k = -1 ∧ v < y)) ∧ dst x u < dst y v)) := by
  obtain ⟨g1, g2⟩ := g
  obtain ⟨u1, u2, u3, u4, u5⟩ := step_unit k hk
  obtain ⟨a1, a2, a3⟩ := dst_step x u (stepX k) u1
  obtain ⟨b1, b2, b3⟩ := dst_step y v (stepY k) u2
  constructor
  · intro hp
    rw [(u5 hp).1] at g1
    rw [(u5 hp).2] at g2
    have := two_less g1 g2
    exact ⟨a3 (by omega), b3 (by omega)⟩
  · intro hp
    rw [(u4 hp).1] at g1
    rw [(u4 hp).2] at g2
    obtain ⟨c1, c2, c3⟩ := one_less g1 g2
    rcases u3 hp with ⟨z, _⟩ | ⟨z, _⟩
    · have := a1 z
      exact Or.inr ⟨z, b3 (by omega), c3 (by omega)⟩
    · have := b1 z
      exact Or.inl ⟨z, a3 (by omega), c2 (by omega)⟩
/-- two that bring one nearer, both straight or both diagonal, are one -/
theorem good_one {x y u v : Int} {k j : Nat} (hk : k < 8) (hj : j < 8) (hp : k % 2 = j % 2) (g : Good x y u v k) (h : Good x y u v j) : k = j := by
  obtain ⟨a1, a2⟩ := good_dir hk g
  obtain ⟨b1, b2⟩ := good_dir hj h
  by_cases q : k % 2 = 1
  · obtain ⟨p1, p2⟩ := a1 q
    obtain ⟨q1, q2⟩ := b1 (by omega)
    have ex : stepX k = stepX j := by omega
    have ey : stepY k = stepY j := by omega
    rcases k8 hk with rfl | rfl | rfl | rfl | rfl | rfl | rfl | rfl <;> rcases k8 hj with rfl | rfl | rfl | rfl | rfl | rfl | rfl | rfl <;> first | rfl | (exfalso; revert ex ey; decide)
  · have p := a2 (by omega)
    have r := b2 (by omega)
    have ex : stepX k = stepX j := by omega
    have ey : stepY k = stepY j := by omega
    rcases k8 hk with rfl | rfl | rfl | rfl | rfl | rfl | rfl | rfl <;> rcases k8 hj with rfl | rfl | rfl | rfl | rfl | rfl | rfl | rfl <;> first | rfl | (exfalso; revert ex ey; decide)
end Go.Proofs.YtfhicijgpdpfpaaDoor
/-
  Corners: what package corner says.
-/
namespace Go.Proofs.YtfhicijgpdpfpaaDoor
open Go.RowKit

/-- does a way turn here, round the cell in a direction? -/
def crB (W H : Int) (bl : Nat → Bool) (x y : Int) (k : Nat) : Bool := openB W H bl (x + stepX k) y && openB W H bl x (y + stepY k) && !openB W H bl (x + stepX k) (y + stepY k)
def turnB (W H : Int) (bl : Nat → Bool) (x y : Int) : Bool := (List.range 4).any fun j => crB W H bl x y (2 * j + 1)
/-- is a cell a corner? -/
def cornB (W H : Int) (bl : Nat → Bool) (c : Int) : Bool := openB W H bl (c % W) (c / W) && turnB W H bl (c % W) (c / W)

theorem turnB_false {W H x y : Int} {bl : Nat → Bool} (h : ∀ j, j < 4 → crB W H bl x y (2 * j + 1) = false) : turnB W H bl x y = false := by
  unfold turnB
  rw [List.any_eq_false]
  intro j hj
  rw [h j (List.mem_range.1 hj)]
  simp
theorem turnB_true {W H x y : Int} {bl : Nat → Bool} {j : Nat} (hj : j < 4) (h : crB W H bl x y (2 * j + 1) = true) : turnB W H bl x y = true :=
  List.any_eq_true.2 ⟨j, List.mem_range.2 hj, h⟩

set_option maxHeartbeats 1600000 in
theorem turns_any {b : Nat} {W H V : Int} {bl : Nat → Bool} (x y : Int) (w : World) (g : GridAt w b W H V bl) (s : StepsAt w) (x1 : -100 ≤ x) (x2 : x ≤ 100) (y1 : -100 ≤ y) (y2 : y ≤ 100) :
    Calls Tryd.prog 65 #[.pointer (some ⟨b, 0, none⟩), .int .i64 x, .int .i64 y] w fun e w' => e = .returned (.bool (turnB W H bl x y)) ∧ ∃ m, w' = w.drewN m := by
  go_enter Tryd.func65, Tryd.ntmps65
  go_wp2
  go_loopg [7] (4 : Nat) (fun gk dv wr => ∃ i : Nat, i ≤ 4 ∧ gk = 4 - i ∧ dv = .int .i64 ((2 * i + 1 : Nat) : Int) ∧ (∀ j, j < i → crB W H bl x y (2 * j + 1) = false) ∧ ∃ m, wr = w.drewN m)
  case atStart => exact ⟨0, Nat.zero_le _, rfl, rfl, fun j hj => absurd hj (by omega), 0, rfl⟩
  case round =>
    obtain ⟨i, hi, hgk, rfl, hall, m, rfl⟩ := hrel
    by_cases hlt : i < 4
    · have hd : 2 * i + 1 < 8 := by omega
      obtain ⟨s1, s2, s3, s4⟩ := step_bd (2 * i + 1)
      have hs := fun w h => step_any (2 * i + 1) w h hd
      have hcr : crB W H bl x y (2 * i + 1) = (openB W H bl (x + stepX (2 * i + 1)) y && openB W H bl x (y + stepY (2 * i + 1)) && !openB W H bl (x + stepX (2 * i + 1)) (y + stepY (2 * i + 1))) := rfl
      generalize stepX (2 * i + 1) = dx at *
      generalize stepY (2 * i + 1) = dy at *
      have go_on : crB W H bl x y (2 * i + 1) = false → Hid (∀ j, j < i + 1 → crB W H bl x y (2 * j + 1) = false) := fun h j hj => by
        by_cases e : j = i
        · rw [e]; exact h
        · exact hall j (by omega)
      clear hall
      cases hA : openB W H bl (x + dx) y with
      | false =>
        rw [hA] at hcr
        have HN := go_on (by rw [hcr]; rfl)
        clear hcr go_on
        go_wp2_with (first | (go_at_call 58; refine (hs _ (s.drewN _)).mono ?_; rintro e w' ⟨rfl, m, rfl⟩) | (go_at_call 64; refine (open_v (by assumption) _ (g.drewN _)).mono ?_; rintro e w' ⟨rfl, m, rfl⟩))
        go_roundg (4 - (i + 1))
        case measure => omega
        case rel => exact ⟨i + 1, by omega, rfl, by go_num, HN.out, _, rfl⟩
      | true =>
        cases hB : openB W H bl x (y + dy) with
        | false =>
          rw [hA, hB] at hcr
          have HN := go_on (by rw [hcr]; rfl)
          clear hcr go_on
          go_wp2_with (first | (go_at_call 58; refine (hs _ (s.drewN _)).mono ?_; rintro e w' ⟨rfl, m, rfl⟩) | (go_at_call 64; refine (open_v (by assumption) _ (g.drewN _)).mono ?_; rintro e w' ⟨rfl, m, rfl⟩))
          go_roundg (4 - (i + 1))
          case measure => omega
          case rel => exact ⟨i + 1, by omega, rfl, by go_num, HN.out, _, rfl⟩
        | true =>
          cases hC : openB W H bl (x + dx) (y + dy) with
          | true =>
            rw [hA, hB, hC] at hcr
            have HN := go_on (by rw [hcr]; rfl)
            clear hcr go_on
            go_wp2_with (first | (go_at_call 58; refine (hs _ (s.drewN _)).mono ?_; rintro e w' ⟨rfl, m, rfl⟩) | (go_at_call 64; refine (open_v (by assumption) _ (g.drewN _)).mono ?_; rintro e w' ⟨rfl, m, rfl⟩))
            go_roundg (4 - (i + 1))
            case measure => omega
            case rel => exact ⟨i + 1, by omega, rfl, by go_num, HN.out, _, rfl⟩
          | false =>
            rw [hA, hB, hC] at hcr
            have HT : Hid (turnB W H bl x y = true) := turnB_true hlt hcr
            clear hcr go_on
            go_wp2_with (first | (go_at_call 58; refine (hs _ (s.drewN _)).mono ?_; rintro e w' ⟨rfl, m, rfl⟩) | (go_at_call 64; refine (open_v (by assumption) _ (g.drewN _)).mono ?_; rintro e w' ⟨rfl, m, rfl⟩))
            go_ret
            exact ⟨by rw [HT.out]; rfl, _, rfl⟩
    · have : i = 4 := by omega
      subst this
      have HT : Hid (turnB W H bl x y = false) := turnB_false hall
      clear hall
      go_wp2
      go_ret
      exact ⟨by rw [HT.out]; rfl, _, rfl⟩

theorem turns_v {b : Nat} {W H V : Int} {bl : Nat → Bool} {x y : Int} {r : Bool} (hr : turnB W H bl x y = r) (w : World) (g : GridAt w b W H V bl) (s : StepsAt w) (x1 : -100 ≤ x) (x2 : x ≤ 100) (y1 : -100 ≤ y) (y2 : y ≤ 100) :
    Calls Tryd.prog 65 #[.pointer (some ⟨b, 0, none⟩), .int .i64 x, .int .i64 y] w fun e w' => e = .returned (.bool r) ∧ ∃ m, w' = w.drewN m := hr ▸ turns_any x y w g s x1 x2 y1 y2

theorem place_bd {W H c : Int} (w1 : 1 ≤ W) (hr : inB W H c = true) : 0 ≤ c % W ∧ c % W < W ∧ 0 ≤ c / W ∧ c / W < H := by
  have hc : 0 ≤ c ∧ c < W * H := of_decide_eq_true hr
  exact ⟨Int.emod_nonneg _ (by omega), Int.emod_lt_of_pos _ (by omega), Int.ediv_nonneg hc.1 (by omega), Int.ediv_lt_of_lt_mul (by omega) (by rw [Int.mul_comm]; exact hc.2)⟩

set_option maxHeartbeats 1000000 in
theorem is_in {b : Nat} {W H V : Int} {bl : Nat → Bool} (c : Int) (w : World) (g : GridAt w b W H V bl) (s : StepsAt w) (hr : inB W H c = true) :
    Calls Tryd.prog 30 #[.pointer (some ⟨b, 0, none⟩), .int .i64 c] w fun e w' => e = .returned (.tuple #[.bool (cornB W H bl c), .nilIface]) ∧ ∃ m, w' = w.drewN m := by
  obtain ⟨x1, x2, y1, y2⟩ := place_bd g.w1 hr
  have gw := g.w2
  have gh := g.h2
  have hP := fun w g => place_in (b := b) (W := W) (H := H) (V := V) (bl := bl) c w g hr
  have hm : cornB W H bl c = (openB W H bl (c % W) (c / W) && turnB W H bl (c % W) (c / W)) := rfl
  rw [hm]
  clear hm
  generalize c % W = x at *
  generalize c / W = y at *
  cases hA : openB W H bl x y with
  | false =>
    simp only [Bool.false_and]
    go_enter Tryd.func30, Tryd.ntmps30
    go_wp2_with (first | (go_at_call 63; refine (hP _ g).mono ?_; rintro e w' ⟨rfl, m, rfl⟩) | (go_at_call 64; refine (open_v (by assumption) _ (g.drewN _)).mono ?_; rintro e w' ⟨rfl, m, rfl⟩))
    go_ret2
    exact ⟨rfl, _, rfl⟩
  | true =>
    cases hB : turnB W H bl x y with
    | false =>
      simp only [Bool.and_false]
      go_enter Tryd.func30, Tryd.ntmps30
      go_wp2_with (first | (go_at_call 63; refine (hP _ g).mono ?_; rintro e w' ⟨rfl, m, rfl⟩) | (go_at_call 64; refine (open_v (by assumption) _ (g.drewN _)).mono ?_; rintro e w' ⟨rfl, m, rfl⟩) | (go_at_call 65; refine (turns_v (by assumption) _ (g.drewN _) (s.drewN _) (by omega) (by omega) (by omega) (by omega)).mono ?_; rintro e w' ⟨rfl, m, rfl⟩))
      go_ret2
      exact ⟨rfl, _, rfl⟩
    | true =>
      simp only [Bool.and_true]
      go_enter Tryd.func30, Tryd.ntmps30
      go_wp2_with (first | (go_at_call 63; refine (hP _ g).mono ?_; rintro e w' ⟨rfl, m, rfl⟩) | (go_at_call 64; refine (open_v (by assumption) _ (g.drewN _)).mono ?_; rintro e w' ⟨rfl, m, rfl⟩) | (go_at_call 65; refine (turns_v (by assumption) _ (g.drewN _) (s.drewN _) (by omega) (by omega) (by omega) (by omega)).mono ?_; rintro e w' ⟨rfl, m, rfl⟩))
      go_ret2
      exact ⟨rfl, _, rfl⟩

set_option maxHeartbeats 400000 in
theorem is_out {b : Nat} {W H V : Int} {bl : Nat → Bool} (c : Int) (w : World) (g : GridAt w b W H V bl) (hr : inB W H c = false) :
    Calls Tryd.prog 30 #[.pointer (some ⟨b, 0, none⟩), .int .i64 c] w fun e w' => e = .returned (.tuple #[.bool false, .iface 78 (.int .i64 1)]) ∧ ∃ m, w' = w.drewN m := by
  go_enter Tryd.func30, Tryd.ntmps30
  go_wp2_with (go_at_call 63; refine (place_out c _ g hr).mono ?_; rintro e w' ⟨rfl, m, rfl⟩)
  go_ret2
  exact ⟨rfl, _, rfl⟩

theorem is_v {b : Nat} {W H V : Int} {bl : Nat → Bool} {c : Int} {r : Bool} (hc : cornB W H bl c = r) (w : World) (g : GridAt w b W H V bl) (s : StepsAt w) (hr : inB W H c = true) :
    Calls Tryd.prog 30 #[.pointer (some ⟨b, 0, none⟩), .int .i64 c] w fun e w' => e = .returned (.tuple #[.bool r, .nilIface]) ∧ ∃ m, w' = w.drewN m := hc ▸ is_in c w g s hr

/-- the corners below k -/
def crs (W H : Int) (bl : Nat → Bool) (k : Nat) : List Nat := (List.range k).filter fun c => cornB W H bl (c : Nat)
theorem crs_succ (W H : Int) (bl : Nat → Bool) (k : Nat) : crs W H bl (k + 1) = crs W H bl k ++ (if cornB W H bl (k : Nat) then [k] else []) := by
  unfold crs
  rw [List.range_succ, List.filter_append]
  cases h : cornB W H bl (k : Nat) <;> simp [h]
theorem crs_len (W H : Int) (bl : Nat → Bool) (k : Nat) : (crs W H bl k).length ≤ k := by
  unfold crs
  have := List.length_filter_le (fun c : Nat => cornB W H bl (c : Nat)) (List.range k)
  simpa using this

set_option maxHeartbeats 1600000 in
set_option maxRecDepth 1000000 in
theorem all_any {b : Nat} {W H V : Int} {bl : Nat → Bool} (w : World) (g : GridAt w b W H V bl) (s : StepsAt w) (hb : b < w.heap.size) :
    Calls Tryd.prog 33 #[.pointer (some ⟨b, 0, none⟩)] w fun e w' => ∃ v, e = .returned v ∧
      w'.ownsRow w.heap.size 3 1 v (crs W H bl (W * H).toNat).length (vals (crs W H bl (W * H).toNat)) ∧ Below w.heap.size w w' := by
  obtain ⟨i0, hi, hz0, hz1, hz2⟩ := info_parts Tryd.info3
  obtain ⟨k1, k2⟩ := wh_bd g.w1 g.w2 g.h1 g.h2
  go_enter Tryd.func33, Tryd.ntmps33
  go_wp2_with (go_at_call 23; refine (cells_any _ g).mono ?_; rintro e w' ⟨rfl, m, rfl⟩)
  go_loopw [3, 9] (fun v i wr => ∃ k : Nat, (k : Int) ≤ W * H ∧ i = .int .i64 k ∧ wr.ownsRow w.heap.size 3 1 v (crs W H bl k).length (vals (crs W H bl k)) ∧ Below w.heap.size w wr)
    (fun _ i _ => 1000 - (intOf i).toNat)
  case atStart => exact ⟨0, by omega, rfl, World.ownsRow_nil _ _ _ _, below_drewN (Below.refl _ _) _⟩
  case round =>
    obtain ⟨k, hk, rfl, hown, hnx⟩ := hrel
    have hl := crs_len W H bl k
    have gr := g.below hnx hb
    have sr := s.below hnx (by omega)
    have hsz := hnx.size
    by_cases hlt : (k : Int) < W * H
    · have hms := crs_succ W H bl k
      have hin : inB W H (k : Nat) = true := decide_eq_true ⟨by omega, hlt⟩
      cases hM : cornB W H bl (k : Nat) with
      | false =>
        rw [hM] at hms
        have h0 : crs W H bl (k + 1) = crs W H bl k := by simpa using hms
        have HS : Hid (crs W H bl (k + 1) = crs W H bl k) := h0
        clear h0
        clear hms
        go_wp2_with (go_at_call 30; refine (is_v hM _ gr sr hin).mono ?_; rintro e w' ⟨rfl, m, rfl⟩)
        go_roundw
        case rel => exact ⟨k + 1, by omega, by go_num, by rw [HS.out]; exact hown, below_drewN hnx _⟩
        case measure => simp [intOf]; omega
      | true =>
        rw [hM] at hms
        have h0 : crs W H bl (k + 1) = crs W H bl k ++ [k] := by simpa using hms
        have HS : Hid (crs W H bl (k + 1) = crs W H bl k ++ [k]) := h0
        clear h0
        clear hms
        go_wp2_with (first | (go_at_call 30; refine (is_v hM _ gr sr hin).mono ?_; rintro e w' ⟨rfl, m, rfl⟩) | (at_builtin; refine wpList_append_own _ rfl _ _ 22 rfl w.heap.size 3 i0 (.int .i64 0) 1 8 Tryd.underlying22 hi hz0 hz1 hz2 rfl (by decide) _ _ _ rfl (World.ownsRow.alloc hown _) ⟨wr.heap.size, 0, none⟩ 1 1 [.int .i64 k] rfl rfl ?c1 ?c2 ?c3 ?c4 ?c5 ?_))
        case c1 =>
          intro j u hj
          match j, hj with
          | 0, hj =>
            simp at hj; subst hj; simp only [Addr.add]
            exact World.cell?_alloc_at (w := wr.drewN m) #[.int .i64 k] 3 wr.heap.size 0 rfl
        case c2 => intro u hu; simp at hu; subst hu; rfl
        case c3 => unfold maxLen; omega
        case c4 => omega
        case c5 => simp; omega
        intro v' w1 hown' hgrow _
        have hbase := fun q hq => (hown.lt q hq).1
        have B1 : Below w.heap.size w w1 := ((below_drewN hnx m).alloc hsz _).grown hgrow (by simp; omega) hbase
        have O1 : w1.ownsRow w.heap.size 3 1 v' (crs W H bl (k + 1)).length (vals (crs W H bl (k + 1))) := by
          rw [HS.out]
          simpa [vals] using hown'
        clear hown' hgrow hown hnx gr sr
        go_wp2
        go_roundw
        case rel => exact ⟨k + 1, by omega, by go_num, O1, B1⟩
        case measure => simp [intOf]; omega
    · have e : (W * H).toNat = k := by omega
      have HE : Hid ((W * H).toNat = k) := e
      clear e
      go_wp2
      go_ret
      exact ⟨_, rfl, by rw [HE.out]; exact hown, hnx⟩
end Go.Proofs.YtfhicijgpdpfpaaDoor
/-
  Steps towards a cell: what 'isTowards' and 'onward' of package reach say.
-/
namespace Go.Proofs.YtfhicijgpdpfpaaDoor
open Go.RowKit

/-- does a step bring one nearer by what it costs? -/
def goodB (x y u v : Int) (k : Nat) : Bool := decide (dst (dst (x + stepX k) u) (dst (y + stepY k) v) + stS k = dst (dst x u) (dst y v)) && decide (les (dst (x + stepX k) u) (dst (y + stepY k) v) + stD k = les (dst x u) (dst y v))
theorem goodB_iff {x y u v : Int} {k : Nat} : goodB x y u v k = true ↔ Good x y u v k := by
  unfold goodB Good
  rw [Bool.and_eq_true, decide_eq_true_eq, decide_eq_true_eq]
theorem oct_step (k : Nat) (h : k < 8) : dst (dst 0 (stepX k)) (dst 0 (stepY k)) = stS k ∧ les (dst 0 (stepX k)) (dst 0 (stepY k)) = stD k := by
  rcases k8 h with rfl | rfl | rfl | rfl | rfl | rfl | rfl | rfl <;> decide

set_option maxHeartbeats 2000000 in
set_option maxRecDepth 1000000 in
theorem isTowards' {x y u v dx dy s1 d1 s2 d2 s3 d3 : Int} {k : Nat} {r : Bool} (w : World)
    (x1 : -100 ≤ x) (x2 : x ≤ 100) (y1 : -100 ≤ y) (y2 : y ≤ 100) (e1 : -1 ≤ dx) (e2 : dx ≤ 1) (e3 : -1 ≤ dy) (e4 : dy ≤ 1)
    (hs : Calls Tryd.prog 58 #[.int .i64 k] w fun e w' => e = .returned (.tuple #[.int .i64 dx, .int .i64 dy]) ∧ ∃ m, w' = w.drewN m)
    (ho1 : ∀ w, Calls Tryd.prog 77 #[.int .i64 0, .int .i64 0, .int .i64 dx, .int .i64 dy] w fun e w' => e = .returned (.agg #[.int .i64 s1, .int .i64 d1]) ∧ Below w.heap.size w w')
    (ho2 : ∀ w, Calls Tryd.prog 77 #[.int .i64 (x + dx), .int .i64 (y + dy), .int .i64 u, .int .i64 v] w fun e w' => e = .returned (.agg #[.int .i64 s2, .int .i64 d2]) ∧ Below w.heap.size w w')
    (ho3 : ∀ w, Calls Tryd.prog 77 #[.int .i64 x, .int .i64 y, .int .i64 u, .int .i64 v] w fun e w' => e = .returned (.agg #[.int .i64 s3, .int .i64 d3]) ∧ Below w.heap.size w w')
    (ha : ∀ w, Calls Tryd.prog 27 #[.agg #[.int .i64 s1, .int .i64 d1], .agg #[.int .i64 s2, .int .i64 d2]] w fun e w' => e = .returned (.agg #[.int .i64 (s1 + s2), .int .i64 (d1 + d2)]) ∧ Below w.heap.size w w')
    (hr : (decide (s1 + s2 = s3) && decide (d1 + d2 = d3)) = r) :
    Calls Tryd.prog 99 #[.int .i64 x, .int .i64 y, .int .i64 k, .int .i64 u, .int .i64 v] w fun e w' => e = .returned (.bool r) ∧ Below w.heap.size w w' := by
  go_enter Tryd.func99, Tryd.ntmps99
  go_wp2_with (go_at_call 58; refine hs.mono ?_; rintro e w' ⟨rfl, m, rfl⟩)
  refine (ho1 _).mono ?_
  rintro e w1 ⟨rfl, hb1⟩
  have B1 : Below w.heap.size w w1 := (below_drewN (Below.refl _ _) m).trans hb1
  clear hb1 ho1 hs
  go_wp2_with fail
  refine (ho2 _).mono ?_
  rintro e w2 ⟨rfl, hb2⟩
  have B2 : Below w.heap.size w w2 := B1.trans (hb2.mono B1.size)
  clear hb2 ho2 B1
  go_wp2_with fail
  refine (ha _).mono ?_
  rintro e w3 ⟨rfl, hb3⟩
  have B2' : Below w.heap.size w ((w2.alloc (.cells #[.int .i64 s1, .int .i64 d1] 31)).alloc (.cells #[.int .i64 s2, .int .i64 d2] 31)) := (B2.alloc B2.size _).alloc (by have := B2.size; simp; omega) _
  have B3 : Below w.heap.size w w3 := B2'.trans (hb3.mono B2'.size)
  clear hb3 ha B2 B2'
  go_wp2_with fail
  refine (ho3 _).mono ?_
  rintro e w4 ⟨rfl, hb4⟩
  have B4 : Below w.heap.size w w4 := B3.trans (hb4.mono B3.size)
  clear hb4 ho3 B3
  by_cases q1 : s1 + s2 = s3
  · by_cases q2 : d1 + d2 = d3
    · rw [decide_eq_true q1, decide_eq_true q2] at hr
      subst hr q1 q2
      go_wp2
      go_ret
      exact ⟨rfl, B4⟩
    · rw [decide_eq_true q1, decide_eq_false q2] at hr
      subst hr q1
      go_wp2
      go_ret
      exact ⟨rfl, B4⟩
  · rw [decide_eq_false q1] at hr
    subst hr
    go_wp2
    go_ret
    exact ⟨rfl, B4⟩

theorem near_place {a : Int} (h : -100 ≤ a) (k : a ≤ 100) : nearB a := by unfold nearB; omega
theorem okC_oct {x y u v : Int} (x1 : -100 ≤ x) (x2 : x ≤ 100) (y1 : -100 ≤ y) (y2 : y ≤ 100) (u1 : -100 ≤ u) (u2 : u ≤ 100) (v1 : -100 ≤ v) (v2 : v ≤ 100) : okC (dst (dst x u) (dst y v)) (les (dst x u) (dst y v)) := by
  unfold okC
  have a : 0 ≤ dst x u ∧ dst x u ≤ 200 := by unfold dst; split <;> omega
  have b : 0 ≤ dst y v ∧ dst y v ≤ 200 := by unfold dst; split <;> omega
  generalize dst x u = X at *
  generalize dst y v = Y at *
  unfold dst les
  split <;> omega
theorem okC_st (k : Nat) : okC (stS k) (stD k) := by
  have := st_bd k
  unfold okC
  omega

theorem isTowards_v {x y u v : Int} {k : Nat} {r : Bool} (hr : goodB x y u v k = r) (w : World) (s : StepsAt w) (hk : k < 8) (x1 : 0 ≤ x) (x2 : x ≤ 50) (y1 : 0 ≤ y) (y2 : y ≤ 50) (u1 : 0 ≤ u) (u2 : u ≤ 50) (v1 : 0 ≤ v) (v2 : v ≤ 50) :
    Calls Tryd.prog 99 #[.int .i64 x, .int .i64 y, .int .i64 k, .int .i64 u, .int .i64 v] w fun e w' => e = .returned (.bool r) ∧ Below w.heap.size w w' := by
  obtain ⟨e1, e2, e3, e4⟩ := step_bd k
  obtain ⟨o1, o2⟩ := oct_step k hk
  have n1 := near_place (show -100 ≤ stepX k by omega) (by omega)
  have n2 := near_place (show -100 ≤ stepY k by omega) (by omega)
  have n0 := near_place (show -100 ≤ (0 : Int) by omega) (by omega)
  have nx := near_place (show -100 ≤ x by omega) (by omega)
  have ny := near_place (show -100 ≤ y by omega) (by omega)
  have nu := near_place (show -100 ≤ u by omega) (by omega)
  have nv := near_place (show -100 ≤ v by omega) (by omega)
  have nx' := near_place (show -100 ≤ x + stepX k by omega) (by omega)
  have ny' := near_place (show -100 ≤ y + stepY k by omega) (by omega)
  refine isTowards' (s1 := stS k) (d1 := stD k) w (by omega) (by omega) (by omega) (by omega) e1 e2 e3 e4 (step_any k w s hk) (fun w => ?_) (fun w => oct_any _ _ _ _ w nx' ny' nu nv) (fun w => oct_any _ _ _ _ w nx ny nu nv) (fun w => add_any _ _ _ _ w (okC_st k) (okC_oct (by omega) (by omega) (by omega) (by omega) (by omega) (by omega) (by omega) (by omega))) ?_
  · have := oct_any 0 0 (stepX k) (stepY k) w n0 n0 n1 n2
    rw [o1, o2] at this
    exact this
  · rw [← hr]
    unfold goodB
    rw [Int.add_comm (stS k), Int.add_comm (stD k)]
end Go.Proofs.YtfhicijgpdpfpaaDoor
