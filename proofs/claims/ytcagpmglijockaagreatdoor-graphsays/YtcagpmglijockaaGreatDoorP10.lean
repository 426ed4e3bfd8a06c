/-
  Texts laid together: LocM, OutM, Shelf, Sorts, AllDir.
-/
import Derived.Test.YtcagpmglijockaaGreatDoorP9
import Derived.Shelf.SlIterI.Nil
import Derived.Shelf.SortM.Plain
import Derived.Shelf.SortM.SortNone
import Derived.Test.YtcagpmglijockaaGreatDoorProg
import Derived.Sort.OwnSortedInts
/-
  Two that are directly near: every step that brings one nearer may be gone; and what a change of one cell touches.
-/
namespace Go.Proofs.YtcagpmglijockaaGreatDoor

theorem dst_to {x u s : Int} (h : (s = 1 ∧ x < u) ∨ (s = -1 ∧ u < x)) : dst (x + s) u = dst x u - 1 ∧ 1 ≤ dst x u := by
  unfold dst
  (repeat' split) <;> omega
theorem dst_still {x u s : Int} (h : (s = 1 ∧ x < u) ∨ (s = -1 ∧ u < x)) (h2 : 2 ≤ dst x u) : (s = 1 ∧ x + s < u) ∨ (s = -1 ∧ u < x + s) := by
  unfold dst at h2
  split at h2 <;> omega
theorem dl_diag {X Y : Int} : dst (X - 1) (Y - 1) + 0 = dst X Y ∧ les (X - 1) (Y - 1) + 1 = les X Y := by
  unfold dst les
  (repeat' split) <;> omega
theorem dl_x {X Y : Int} (h : Y < X) : dst (X - 1) Y + 1 = dst X Y ∧ les (X - 1) Y + 0 = les X Y := by
  unfold dst les
  (repeat' split) <;> omega
theorem dl_y {X Y : Int} (h : X < Y) : dst X (Y - 1) + 1 = dst X Y ∧ les X (Y - 1) + 0 = les X Y := by
  unfold dst les
  (repeat' split) <;> omega

theorem good_diag {x y u v : Int} {k : Nat} (hk : k < 8) (hp : k % 2 = 1) (hx : (stepX k = 1 ∧ x < u) ∨ (stepX k = -1 ∧ u < x)) (hy : (stepY k = 1 ∧ y < v) ∨ (stepY k = -1 ∧ v < y)) : Good x y u v k := by
  obtain ⟨_, _, _, _, u5⟩ := step_unit k hk
  unfold Good
  rw [(u5 hp).1, (u5 hp).2, (dst_to hx).1, (dst_to hy).1]
  exact dl_diag
theorem good_x {x y u v : Int} {k : Nat} (hk : k < 8) (hp : k % 2 = 0) (hx : (stepX k = 1 ∧ x < u) ∨ (stepX k = -1 ∧ u < x)) (hy : stepY k = 0) (hlt : dst y v < dst x u) : Good x y u v k := by
  obtain ⟨_, _, _, u4, _⟩ := step_unit k hk
  unfold Good
  rw [(u4 hp).1, (u4 hp).2, (dst_to hx).1, hy, Int.add_zero]
  exact dl_x hlt
theorem good_y {x y u v : Int} {k : Nat} (hk : k < 8) (hp : k % 2 = 0) (hy : (stepY k = 1 ∧ y < v) ∨ (stepY k = -1 ∧ v < y)) (hx : stepX k = 0) (hlt : dst x u < dst y v) : Good x y u v k := by
  obtain ⟨_, _, _, u4, _⟩ := step_unit k hk
  unfold Good
  rw [(u4 hp).1, (u4 hp).2, (dst_to hy).1, hx, Int.add_zero]
  exact dl_y hlt

theorem adj_x {j k : Nat} (hj : j < 8) (hk : k < 8) (hp : k % 2 = 1) (hy : stepY j = 0) (hx : stepX j = stepX k) : (k = (j + 1) % 8 ∨ k = (j + 7) % 8) ∧ (j = (k + 1) % 8 ∨ j = (k + 7) % 8) := by
  rcases k8 hk with rfl | rfl | rfl | rfl | rfl | rfl | rfl | rfl <;> rcases k8 hj with rfl | rfl | rfl | rfl | rfl | rfl | rfl | rfl <;> revert hp hy hx <;> decide
theorem adj_y {j k : Nat} (hj : j < 8) (hk : k < 8) (hp : k % 2 = 1) (hx : stepX j = 0) (hy : stepY j = stepY k) : (k = (j + 1) % 8 ∨ k = (j + 7) % 8) ∧ (j = (k + 1) % 8 ∨ j = (k + 7) % 8) := by
  rcases k8 hk with rfl | rfl | rfl | rfl | rfl | rfl | rfl | rfl <;> rcases k8 hj with rfl | rfl | rfl | rfl | rfl | rfl | rfl | rfl <;> revert hp hy hx <;> decide

/-- two that bring one nearer lie beside each other, and behind the one the other still brings one nearer -/
theorem good_adj {x y u v : Int} {j k : Nat} (hj : j < 8) (hk : k < 8) (hne : k ≠ j) (gj : Good x y u v j) (gk : Good x y u v k) :
    (k = (j + 1) % 8 ∨ k = (j + 7) % 8) ∧ Good (x + stepX j) (y + stepY j) u v k := by
  obtain ⟨a1, a2⟩ := good_dir hj gj
  obtain ⟨b1, b2⟩ := good_dir hk gk
  by_cases p : j % 2 = 1
  · by_cases q : k % 2 = 1
    · exact absurd (good_one hk hj (by omega) gk gj) hne
    · obtain ⟨jx, jy⟩ := a1 p
      rcases b2 (by omega) with ⟨z, kx, hlt⟩ | ⟨z, ky, hlt⟩
      · refine ⟨(adj_x hk hj p z (by omega)).2, good_x hk (by omega) ?_ z ?_⟩
        · rw [show stepX j = stepX k by omega]
          exact dst_still kx (by have := (dst_to jy).2; omega)
        · rw [(dst_to jx).1, (dst_to jy).1]; omega
      · refine ⟨(adj_y hk hj p z (by omega)).2, good_y hk (by omega) ?_ z ?_⟩
        · rw [show stepY j = stepY k by omega]
          exact dst_still ky (by have := (dst_to jx).2; omega)
        · rw [(dst_to jx).1, (dst_to jy).1]; omega
  · by_cases q : k % 2 = 1
    · obtain ⟨kx, ky⟩ := b1 q
      rcases a2 (by omega) with ⟨z, jx, hlt⟩ | ⟨z, jy, hlt⟩
      · refine ⟨(adj_x hj hk q z (by omega)).1, good_diag hk q ?_ (by rw [z, Int.add_zero]; exact ky)⟩
        rw [show stepX j = stepX k by omega]
        exact dst_still kx (by have := (dst_to ky).2; omega)
      · refine ⟨(adj_y hj hk q z (by omega)).1, good_diag hk q (by rw [z, Int.add_zero]; exact kx) ?_⟩
        rw [show stepY j = stepY k by omega]
        exact dst_still ky (by have := (dst_to kx).2; omega)
    · exact absurd (good_one hk hj (by omega) gk gj) hne

/-- directly near -/
def Dir (W H : Int) (bl : Nat → Bool) (a b : Int) : Prop := (∃ z, On W H bl a b z) ∧ ∀ k, On W H bl a b k → CornC W H bl k → k = a ∨ k = b

section
variable {W H : Int} {bl : Nat → Bool} {a b : Int}
theorem wk_in' {s d : Int} (w1 : 1 ≤ W) (ha : inB W H a = true) (h : Wk (Edge W H bl) a b s d) : inB W H b = true := by
  rcases h.inv with ⟨e, _⟩ | ⟨_, _, _, _, _, e, _⟩
  · rw [e]; exact ha
  · exact e.in' w1

theorem On.trans (w1 : 1 ≤ W) (hS : octS W a b ≤ 1000) (hD : octD W a b ≤ 1000) {k z : Int} (h : On W H bl a b k) (g : On W H bl a k z) : On W H bl a b z := by
  obtain ⟨h1, h2, h3, h4⟩ := h.walks w1 hS hD
  have n1 := octS_nonneg W b k
  have n2 := octD_nonneg W b k
  obtain ⟨g1, g2, g3, g4⟩ := g.walks w1 (by omega) (by omega)
  exact On.of_walks w1 hS hD g1 (Wk.join h2 g2) (by omega) (by omega)

theorem dst_zero {x y : Int} (h : dst x y = 0) : x = y := by
  unfold dst at h
  split at h <;> omega
theorem les_zero {x y : Int} (h : les x y = 0) (e : x = y) : x = 0 := by
  unfold les at h
  split at h <;> omega
theorem oct_zero (hS : octS W a b = 0) (hD : octD W a b = 0) : a = b := by
  have h1 := dst_zero hS
  have h2 := les_zero hD h1
  have e1 : a % W = b % W := dst_zero h2
  have e2 : a / W = b / W := dst_zero (h1.symm.trans h2)
  rw [← Int.emod_add_mul_ediv a W, ← Int.emod_add_mul_ediv b W, e1, e2]

theorem Dir.full (w1 : 1 ≤ W) (hS : octS W a b ≤ 1000) (hD : octD W a b ≤ 1000) (hd : Dir W H bl a b) :
    ∀ (n : Nat) (p : Int), On W H bl a b p → octS W p b + octD W p b ≤ n → ∀ k, k < 8 → Good (p % W) (p / W) (b % W) (b / W) k → ∃ r, Edge W H bl p k r ∧ On W H bl a b r := by
  intro n
  induction n with
  | zero =>
    intro p hp hn k hk g
    have n1 := octS_nonneg W p b
    have n2 := octD_nonneg W p b
    have := oct_zero (W := W) (a := p) (b := b) (by omega) (by omega)
    rw [this] at g
    exact absurd g (good_end hk)
  | succ n ih =>
    intro p hp hn k hk g
    have hpb : p ≠ b := fun e => by rw [e] at g; exact good_end hk g
    obtain ⟨j, q, ej, gj, hq⟩ := On.next w1 hS hD hp hpb
    by_cases hkj : k = j
    · exact ⟨q, hkj ▸ ej, hq⟩
    · have hj := ej.1
      obtain ⟨adj, gk⟩ := good_adj hj hk hkj gj g
      obtain ⟨q1, q2⟩ := ej.place w1
      rw [← q1, ← q2] at gk
      obtain ⟨i1, i2⟩ := (good_iff w1 ej).1 gj
      have sj := st_bd j
      obtain ⟨s, es, hs⟩ := ih q hq (by omega) k hk gk
      obtain ⟨p1, p2, p3, p4⟩ := hp.walks w1 hS hD
      have hnc : ¬ CornC W H bl q := fun hc => by
        rcases hd.2 q hq hc with e | e
        · rw [e] at i1 i2
          have := octS_nonneg W a p
          have := octD_nonneg W a p
          rw [octS_comm W p b] at i1
          rw [octD_comm W p b] at i2
          omega
        · rw [e] at gk; exact good_end hk gk
      have m1 := ej.2.2.1
      have m2 := es.2.2.1
      rw [q1, q2] at m2
      rcases turn1 hj adj m1 m2 with hc | ⟨m3, m4⟩
      · exact absurd (by unfold CornC; rw [q1, q2]; exact hc) hnc
      · have er : Edge W H bl p k (p + (stepY k * W + stepX k)) := ⟨hk, ej.2.1, m3, rfl⟩
        obtain ⟨r1, r2⟩ := er.place w1
        have hin := er.in' w1
        have hse : s = p + (stepY k * W + stepX k) + (stepY j * W + stepX j) := by
          rw [es.2.2.2, ej.2.2.2]
          generalize stepY k * W = A
          generalize stepY j * W = B
          omega
        have e2 : Edge W H bl (p + (stepY k * W + stepX k)) j s := ⟨hj, hin, by rw [r1, r2]; exact m4, hse⟩
        obtain ⟨j', eb, b1, b2⟩ := Edge.back w1 _ _ _ e2
        obtain ⟨s1, s2, s3, s4⟩ := hs.walks w1 hS hD
        obtain ⟨k1, k2⟩ := (good_iff w1 es).1 gk
        refine ⟨_, er, On.of_walks w1 hS hD (p1.step er) (s2.step eb) ?_ ?_⟩
        · rw [b1, octS_comm W b s]
          rw [octS_comm W p b] at i1
          omega
        · rw [b2, octD_comm W b s]
          rw [octD_comm W p b] at i2
          omega

/-- what is on a way between two that are directly near is directly near the first -/
theorem Dir.sub (w1 : 1 ≤ W) (hS : octS W a b ≤ 1000) (hD : octD W a b ≤ 1000) (hd : Dir W H bl a b) {k : Int} (h : On W H bl a b k) : Dir W H bl k a := by
  obtain ⟨h1, h2, h3, h4⟩ := h.walks w1 hS hD
  have n1 := octS_nonneg W b k
  have n2 := octD_nonneg W b k
  obtain ⟨z, hz⟩ := On.near_a w1 hS hD (by omega) (by omega) h
  refine ⟨⟨z, hz.sym⟩, fun y hy hc => ?_⟩
  rcases hd.2 y (On.trans w1 hS hD h hy.sym) hc with e | e
  · exact Or.inr e
  · left
    rw [e] at hy ⊢
    obtain ⟨g1, g2, g3, g4⟩ := hy.sym.walks w1 (by omega) (by omega)
    have m1 := octS_nonneg W k b
    have m2 := octD_nonneg W k b
    exact oct_zero (W := W) (by rw [octS_comm W b k]; omega) (by rw [octD_comm W b k]; omega)
theorem Dir.sym (h : Dir W H bl a b) : Dir W H bl b a :=
  ⟨h.1.elim fun z hz => ⟨z, hz.sym⟩, fun k hk hc => (h.2 k hk.sym hc).symm⟩
theorem Dir.self (w1 : 1 ≤ W) : Dir W H bl a a := by
  have z1 : octS W a a ≤ 1000 := by rw [octS_self]; omega
  have z2 : octD W a a ≤ 1000 := by rw [octD_self]; omega
  refine ⟨⟨a, Tw.nil, Tw.nil⟩, fun k hk _ => ?_⟩
  obtain ⟨g1, g2, g3, g4⟩ := hk.walks w1 z1 z2
  rw [octS_self] at g3
  rw [octD_self] at g4
  have m1 := octS_nonneg W a k
  have m2 := octD_nonneg W a k
  exact Or.inl (oct_zero (W := W) (by omega) (by omega)).symm
end

/-- a cell is beside another one, or it -/
def Blk (W c p : Int) : Prop := p % W - 1 ≤ c % W ∧ c % W ≤ p % W + 1 ∧ p / W - 1 ≤ c / W ∧ c / W ≤ p / W + 1

section
variable {W H c0 : Int} {bl bl' : Nat → Bool}
theorem far_open (hbl : ∀ n : Nat, (n : Int) ≠ c0 → bl n = bl' n) {x y : Int} (h : ¬ (x = c0 % W ∧ y = c0 / W)) : openB W H bl x y = openB W H bl' x y := by
  unfold openB
  cases ha : atB W H x y with
  | false => rfl
  | true =>
    have q : 0 ≤ x ∧ x < W ∧ 0 ≤ y ∧ y < H := of_decide_eq_true ha
    have hm : 0 ≤ y * W := Int.mul_nonneg q.2.2.1 (by omega)
    have e : bl (y * W + x).toNat = bl' (y * W + x).toNat := hbl _ (fun e => h (by
      rw [Int.toNat_of_nonneg (by omega)] at e
      rw [← e]
      constructor
      · rw [Int.add_comm, Int.add_mul_emod_self_right]; exact (Int.emod_eq_of_lt q.1 q.2.1).symm
      · rw [Int.add_comm, Int.add_mul_ediv_right _ _ (by omega), Int.ediv_eq_zero_of_lt q.1 q.2.1]; omega))
    rw [e]
theorem far_may (hbl : ∀ n : Nat, (n : Int) ≠ c0 → bl n = bl' n) {p : Int} (h : ¬ Blk W c0 p) {k : Nat} (hk : k < 8) : mayB W H bl (p % W) (p / W) k = mayB W H bl' (p % W) (p / W) k := by
  obtain ⟨u1, u2, _⟩ := step_unit k hk
  have f : ∀ s t : Int, (s = -1 ∨ s = 0 ∨ s = 1) → (t = -1 ∨ t = 0 ∨ t = 1) → openB W H bl (p % W + s) (p / W + t) = openB W H bl' (p % W + s) (p / W + t) := fun s t hs ht => far_open hbl (fun ⟨e1, e2⟩ => h (by unfold Blk; omega))
  have f0 := f 0 0 (by omega) (by omega)
  have f1 := f (stepX k) 0 u1 (by omega)
  have f2 := f 0 (stepY k) (by omega) u2
  have f3 := f _ _ u1 u2
  rw [Int.add_zero] at f1 f2
  rw [Int.add_zero, Int.add_zero] at f0
  unfold mayB
  rw [f0, f1, f2, f3]
theorem far_corn (hbl : ∀ n : Nat, (n : Int) ≠ c0 → bl n = bl' n) {p : Int} (h : ¬ Blk W c0 p) : CornC W H bl p → CornC W H bl' p := by
  have f : ∀ s t : Int, (s = -1 ∨ s = 0 ∨ s = 1) → (t = -1 ∨ t = 0 ∨ t = 1) → openB W H bl (p % W + s) (p / W + t) = openB W H bl' (p % W + s) (p / W + t) := fun s t hs ht => far_open hbl (fun ⟨e1, e2⟩ => h (by unfold Blk; omega))
  rintro ⟨h0, k, hk, hp, h1, h2, h3⟩
  obtain ⟨u1, u2, _⟩ := step_unit k hk
  have f0 := f 0 0 (by omega) (by omega)
  have f1 := f (stepX k) 0 u1 (by omega)
  have f2 := f 0 (stepY k) (by omega) u2
  have f3 := f _ _ u1 u2
  rw [Int.add_zero] at f1 f2
  rw [Int.add_zero, Int.add_zero] at f0
  exact ⟨f0 ▸ h0, k, hk, hp, f3 ▸ h1, f1 ▸ h2, f2 ▸ h3⟩

/-- an edge whose ways no cell beside the changed one is on, is kept -/
theorem edge_kept (hbl : ∀ n : Nat, (n : Int) ≠ c0 → bl n = bl' n) (w1 : 1 ≤ W) {c d : Int} (hS : octS W c d ≤ 1000) (hD : octD W c d ≤ 1000) (hc : inB W H c = true) (hf : bl c.toNat = false) (hd : CornC W H bl d) (h : Dir W H bl c d)
    (hno : ∀ p, inB W H p = true → bl p.toNat = false → Blk W c0 p → ¬ Dir W H bl p c) : CornC W H bl' d ∧ Dir W H bl' c d := by
  have far : ∀ p, On W H bl c d p → ¬ Blk W c0 p := fun p hp hB => hno p (wk_in' w1 hc (hp.walks w1 hS hD).1) (hp.free w1 hS hD hf) hB (h.sub w1 hS hD hp)
  have mv : ∀ p k r, On W H bl c d p → Edge W H bl p k r → Edge W H bl' p k r := fun p k r hp e => ⟨e.1, e.2.1, by rw [← far_may hbl (far p hp) e.1]; exact e.2.2.1, e.2.2.2⟩
  have vm : ∀ p k r, On W H bl c d p → Edge W H bl' p k r → Edge W H bl p k r := fun p k r hp e => ⟨e.1, e.2.1, by rw [far_may hbl (far p hp) e.1]; exact e.2.2.1, e.2.2.2⟩
  obtain ⟨z, hz⟩ := h.1
  obtain ⟨oc, od, _⟩ := hz.ends w1 hS hD
  -- forth: by the steps that bring one nearer, all of which may be gone
  have hS' : octS W d c ≤ 1000 := by rw [octS_comm]; exact hS
  have hD' : octD W d c ≤ 1000 := by rw [octD_comm]; exact hD
  have fwd : ∀ p, Tw W H bl' c d p → On W H bl c d p := fun p hp => hp (fun p => On W H bl c d p) oc (fun p k r hp e g => by
    obtain ⟨r', e', hr⟩ := h.full w1 hS hD (octS W p d + octD W p d).toNat p hp (by omega) k e.1 g
    rw [e.2.2.2, ← e'.2.2.2]; exact hr)
  have thr : ∀ p, On W H bl c d p → Tw W H bl' c d p := by
    intro p hp
    -- walk back to the beginning
    have key : ∀ (n : Nat) (p : Int), On W H bl c d p → octS W c p + octD W c p ≤ n → Tw W H bl' c d p := by
      intro n
      induction n with
      | zero =>
        intro p hp hn
        have n1 := octS_nonneg W c p
        have n2 := octD_nonneg W c p
        rw [← oct_zero (W := W) (a := c) (b := p) (by omega) (by omega)]
        exact Tw.nil
      | succ n ih =>
        intro p hp hn
        by_cases e : p = c
        · rw [e]; exact Tw.nil
        · obtain ⟨j, q, ej, gj, hq⟩ := On.next w1 hS' hD' hp.sym e
          have hq := hq.sym
          obtain ⟨i1, i2⟩ := (good_iff w1 ej).1 gj
          have sj := st_bd j
          rw [octS_comm W q c, octS_comm W p c] at i1
          rw [octD_comm W q c, octD_comm W p c] at i2
          obtain ⟨j', eb, b1, b2⟩ := Edge.back w1 _ _ _ ej
          have tq := ih q hq (by omega)
          obtain ⟨q1, q2, q3, q4⟩ := hq.walks w1 hS hD
          obtain ⟨p1, p2, p3, p4⟩ := hp.walks w1 hS hD
          refine tq.step (mv q j' p hq eb) ((good_iff w1 eb).2 ?_)
          rw [b1, b2, octS_comm W p d, octS_comm W q d, octD_comm W p d, octD_comm W q d]
          omega
    exact key (octS W c p + octD W c p).toNat p hp (by omega)
  have rht : ∀ p, On W H bl c d p → Tw W H bl' d c p := by
    have key : ∀ (n : Nat) (p : Int), On W H bl c d p → octS W p d + octD W p d ≤ n → Tw W H bl' d c p := by
      intro n
      induction n with
      | zero =>
        intro p hp hn
        have n1 := octS_nonneg W p d
        have n2 := octD_nonneg W p d
        rw [oct_zero (W := W) (a := p) (b := d) (by omega) (by omega)]
        exact Tw.nil
      | succ n ih =>
        intro p hp hn
        by_cases e : p = d
        · rw [e]; exact Tw.nil
        · obtain ⟨j, q, ej, gj, hq⟩ := On.next w1 hS hD hp e
          obtain ⟨i1, i2⟩ := (good_iff w1 ej).1 gj
          have sj := st_bd j
          obtain ⟨j', eb, b1, b2⟩ := Edge.back w1 _ _ _ ej
          have tq := ih q hq (by omega)
          obtain ⟨q1, q2, q3, q4⟩ := hq.walks w1 hS hD
          obtain ⟨p1, p2, p3, p4⟩ := hp.walks w1 hS hD
          refine tq.step (mv q j' p hq eb) ((good_iff w1 eb).2 ?_)
          rw [b1, b2, octS_comm W p c, octS_comm W q c, octD_comm W p c, octD_comm W q c]
          rw [octS_comm W q d, octS_comm W p d] at i1
          rw [octD_comm W q d, octD_comm W p d] at i2
          omega
    exact fun p hp => key (octS W p d + octD W p d).toNat p hp (by omega)
  refine ⟨far_corn hbl (far d od) hd, ⟨z, thr z hz, rht z hz⟩, fun k hk hcn => ?_⟩
  have hk' := fwd k hk.1
  exact h.2 k hk' (far_corn (fun n hn => (hbl n hn).symm) (far k hk') hcn)
end
end Go.Proofs.YtcagpmglijockaaGreatDoor
/-
  What is come to by steps away from a cell, layer by layer, and what of it lies behind a corner.
-/
namespace Go.Proofs.YtcagpmglijockaaGreatDoor

/-- how many steps if nothing is in the way -/
def octN (W a b : Int) : Int := octS W a b + octD W a b
theorem octN_nonneg (W a b : Int) : 0 ≤ octN W a b := by
  have := octS_nonneg W a b
  have := octD_nonneg W a b
  unfold octN; omega
theorem octN_self (W a : Int) : octN W a a = 0 := by unfold octN; rw [octS_self, octD_self]; rfl
theorem opp_opp {k : Nat} (h : k < 8) : opp (opp k) = k := by unfold opp; omega

section
variable {W H : Int} {bl : Nat → Bool} {a : Int}
theorem Edge.opp {c r : Int} {k : Nat} (w1 : 1 ≤ W) (e : Edge W H bl c k r) : Edge W H bl r (opp k) c := by
  obtain ⟨p1, p2⟩ := e.place w1
  have hin := e.in' w1
  obtain ⟨h1, h2, h3, h4⟩ := e
  refine ⟨opp_lt k, hin, ?_, ?_⟩
  · rw [p1, p2]; exact may_back h1 h3
  · rw [h4]; exact (back_home h1).symm

/-- as near as if nothing were in the way -/
def Nr (W H : Int) (bl : Nat → Bool) (a b : Int) : Prop := Wk (Edge W H bl) a b (octS W a b) (octD W a b)
theorem Nr.self : Nr W H bl a a := by unfold Nr; rw [octS_self, octD_self]; exact Wk.nil
theorem Nr.of_on (w1 : 1 ≤ W) {b z : Int} (hS : octS W a b ≤ 1000) (hD : octD W a b ≤ 1000) (h : On W H bl a b z) : Nr W H bl a b := (h.ends w1 hS hD).2.2
theorem Nr.on (w1 : 1 ≤ W) {b : Int} (hS : octS W a b ≤ 1000) (hD : octD W a b ≤ 1000) (h : Nr W H bl a b) : On W H bl a b b := On.of_near w1 hS hD h

/-- a step away costs what one is farther off -/
theorem Og.far {c r : Int} {k : Nat} (w1 : 1 ≤ W) (h : Og W H bl a c k r) : octS W a c + stS k = octS W a r ∧ octD W a c + stD k = octD W a r := by
  obtain ⟨g1, g2⟩ := (good_iff w1 (h.1.opp w1)).1 h.2
  obtain ⟨s1, s2⟩ := st_opp k
  rw [s1, octS_comm W c a, octS_comm W r a] at g1
  rw [s2, octD_comm W c a, octD_comm W r a] at g2
  exact ⟨g1, g2⟩
theorem Og.next {c r : Int} {k : Nat} (w1 : 1 ≤ W) (h : Og W H bl a c k r) : octN W a c + 1 = octN W a r := by
  obtain ⟨g1, g2⟩ := h.far w1
  have := st_bd k
  unfold octN
  omega
theorem Nr.out {c r : Int} {k : Nat} (w1 : 1 ≤ W) (h : Nr W H bl a c) (o : Og W H bl a c k r) : Nr W H bl a r := by
  obtain ⟨g1, g2⟩ := o.far w1
  have := h.step o.1
  rw [g1, g2] at this
  exact this
theorem Og.on {c r : Int} {k : Nat} (w1 : 1 ≤ W) (hS : octS W a r ≤ 1000) (hD : octD W a r ≤ 1000) (h : Nr W H bl a c) (o : Og W H bl a c k r) : On W H bl a r c := by
  obtain ⟨g1, g2⟩ := o.far w1
  obtain ⟨s1, s2⟩ := st_opp k
  have hb := wk_edge (o.1.opp w1)
  rw [s1, s2] at hb
  exact On.of_walks w1 hS hD h hb g1 g2
/-- whoever is on a way and is not its end has one behind it -/
theorem Og.prev {r q : Int} (w1 : 1 ≤ W) (hS : octS W a r ≤ 1000) (hD : octD W a r ≤ 1000) (h : On W H bl a r q) (hne : q ≠ r) :
    ∃ c k, Nr W H bl a c ∧ Og W H bl a c k r ∧ On W H bl a c q := by
  have hS' : octS W r a ≤ 1000 := by rw [octS_comm]; exact hS
  have hD' : octD W r a ≤ 1000 := by rw [octD_comm]; exact hD
  obtain ⟨h1, h2, h3, h4⟩ := h.walks w1 hS hD
  have n1 := octS_nonneg W a q
  have n2 := octD_nonneg W a q
  have qS : octS W r q ≤ 1000 := by omega
  have qD : octD W r q ≤ 1000 := by omega
  -- the first step back from r towards q
  have hon : On W H bl r q r := (On.of_near w1 qS qD h2).ends w1 qS qD |>.1
  obtain ⟨j, c, ej, gj, hc⟩ := On.next w1 qS qD hon (Ne.symm hne)
  obtain ⟨g1, g2⟩ := (good_iff w1 ej).1 gj
  obtain ⟨c1, c2, c3, c4⟩ := hc.walks w1 qS qD
  rw [octS_comm W c q, octS_comm W r q] at g1
  rw [octD_comm W c q, octD_comm W r q] at g2
  rw [octS_comm W r q] at c3
  rw [octD_comm W r q] at c4
  have hra : On W H bl r a c := On.trans w1 hS' hD' h.sym hc
  obtain ⟨d1, d2, d3, d4⟩ := hra.walks w1 hS' hD'
  have hj := ej.1
  refine ⟨c, opp j, d2, ⟨ej.opp w1, ?_⟩, ?_⟩
  · rw [opp_opp hj]
    refine (good_iff w1 ej).2 ⟨?_, ?_⟩
    · rw [octS_comm W c a]; omega
    · rw [octD_comm W c a]; omega
  · rw [octS_comm W r q] at h3
    rw [octD_comm W r q] at h4
    rw [octS_comm W r a] at d3
    rw [octD_comm W r a] at d4
    have m1 := octS_nonneg W r c
    have m2 := octD_nonneg W r c
    refine On.of_walks w1 (by omega) (by omega) h1 (c2.back (Edge.back w1)) ?_ ?_
    · omega
    · omega
theorem Nr.prev {r : Int} (w1 : 1 ≤ W) (hS : octS W a r ≤ 1000) (hD : octD W a r ≤ 1000) (h : Nr W H bl a r) (hne : r ≠ a) : ∃ c k, Nr W H bl a c ∧ Og W H bl a c k r := by
  obtain ⟨c, k, h1, h2, _⟩ := Og.prev w1 hS hD ((h.on w1 hS hD).ends w1 hS hD).1 (Ne.symm hne)
  exact ⟨c, k, h1, h2⟩

/-- it lies behind a corner -/
def Bhd (W H : Int) (bl : Nat → Bool) (a r : Int) : Prop := ∃ q, On W H bl a r q ∧ CornC W H bl q ∧ q ≠ a ∧ q ≠ r
theorem Bhd.iff {r : Int} (w1 : 1 ≤ W) (hS : octS W a r ≤ 1000) (hD : octD W a r ≤ 1000) :
    Bhd W H bl a r ↔ ∃ c k, Nr W H bl a c ∧ Og W H bl a c k r ∧ (Bhd W H bl a c ∨ (CornC W H bl c ∧ c ≠ a)) := by
  constructor
  · rintro ⟨q, hq, hc, h1, h2⟩
    obtain ⟨c, k, hn, ho, hon⟩ := Og.prev w1 hS hD hq h2
    refine ⟨c, k, hn, ho, ?_⟩
    by_cases e : q = c
    · rw [e] at hc h1
      exact Or.inr ⟨hc, h1⟩
    · exact Or.inl ⟨q, hon, hc, h1, e⟩
  · rintro ⟨c, k, hn, ho, hb⟩
    have hon := ho.on w1 hS hD hn
    have hlt := ho.next w1
    rcases hb with ⟨q, hq, hc, h1, h2⟩ | ⟨hc, h1⟩
    · refine ⟨q, On.trans w1 hS hD hon hq, hc, h1, fun e => ?_⟩
      obtain ⟨g1, g2⟩ := ho.far w1
      have := st_bd k
      obtain ⟨_, _, q3, q4⟩ := hq.walks w1 (by omega) (by omega)
      have n1 := octS_nonneg W c q
      have n2 := octD_nonneg W c q
      rw [e] at q3 q4 n1 n2
      unfold octN at hlt
      omega
    · exact ⟨c, hon, hc, h1, fun e => by rw [e] at hlt; omega⟩
theorem Bhd.not_self (w1 : 1 ≤ W) : ¬ Bhd W H bl a a := by
  rintro ⟨q, hq, hc, h1, _⟩
  rcases (Dir.self (H := H) (bl := bl) w1).2 q hq hc with e | e <;> exact h1 e
theorem Dir.iff {r : Int} (w1 : 1 ≤ W) (hS : octS W a r ≤ 1000) (hD : octD W a r ≤ 1000) : Dir W H bl a r ↔ Nr W H bl a r ∧ ¬ Bhd W H bl a r := by
  constructor
  · rintro ⟨⟨z, hz⟩, h⟩
    refine ⟨Nr.of_on w1 hS hD hz, ?_⟩
    rintro ⟨q, hq, hc, h1, h2⟩
    rcases h q hq hc with e | e
    · exact h1 e
    · exact h2 e
  · rintro ⟨hn, hb⟩
    refine ⟨⟨r, hn.on w1 hS hD⟩, fun q hq hc => ?_⟩
    by_cases e1 : q = a
    · exact Or.inl e1
    · by_cases e2 : q = r
      · exact Or.inr e2
      · exact absurd ⟨q, hq, hc, e1, e2⟩ hb

theorem Nr.in (w1 : 1 ≤ W) (ha : inB W H a = true) {r : Int} (h : Nr W H bl a r) : inB W H r = true := wk_in' w1 ha h
theorem octN_zero {r : Int} (h : octN W a r = 0) : r = a := by
  have n1 := octS_nonneg W a r
  have n2 := octD_nonneg W a r
  unfold octN at h
  exact (oct_zero (W := W) (a := a) (b := r) (by omega) (by omega)).symm
/-- where one can come to there is one of each layer before -/
theorem Nr.mid (w1 : 1 ≤ W) (hbd : ∀ r, Nr W H bl a r → octS W a r ≤ 1000 ∧ octD W a r ≤ 1000) : ∀ (n : Nat) (r : Int), Nr W H bl a r → octN W a r = n → ∀ i : Nat, i ≤ n → ∃ z, Nr W H bl a z ∧ octN W a z = i := by
  intro n
  induction n with
  | zero => intro r hr hn i hi; exact ⟨r, hr, by omega⟩
  | succ n ih =>
    intro r hr hn i hi
    by_cases e : i = n + 1
    · exact ⟨r, hr, by omega⟩
    · have hne : r ≠ a := fun e => by rw [e, octN_self] at hn; omega
      obtain ⟨h1, h2⟩ := hbd r hr
      obtain ⟨c, k, hc, ho⟩ := hr.prev w1 h1 h2 hne
      have := ho.next w1
      exact ih c hc (by omega) i (by omega)
theorem Tw.in {t z : Int} (w1 : 1 ≤ W) (ha : inB W H a = true) (h : Tw W H bl a t z) : inB W H z = true :=
  h (fun z => inB W H z = true) ha (fun _ _ _ _ e _ => e.in' w1)
theorem On.in_b {b z : Int} (w1 : 1 ≤ W) (ha : inB W H a = true) (h : On W H bl a b z) : inB W H b = true := by
  have q : z = b ∨ inB W H b = true := h.2 (fun z => z = b ∨ inB W H b = true) (Or.inl rfl) (fun p k r hp e _ => by
    rcases hp with rfl | hp
    · exact Or.inr e.2.1
    · exact Or.inr hp)
  rcases q with e | e
  · rw [← e]; exact h.1.in w1 ha
  · exact e
theorem Dir.in {b : Int} (w1 : 1 ≤ W) (ha : inB W H a = true) (h : Dir W H bl a b) : inB W H b = true := by
  obtain ⟨z, hz⟩ := h.1
  exact hz.in_b w1 ha
end
end Go.Proofs.YtcagpmglijockaaGreatDoor
/-
  The contracts of the Go library that this claim leans on (sorting, the keys of a map), laid at this program: each field a fact of the program or the kernel's comparison.
-/
namespace Go.Proofs.YtcagpmglijockaaGreatDoor
open Go.Shelf
def Tryz.keysA_ren : Go.Shelf.Ren := ⟨fun | 7 => 33 | 10 => 60 | n => n, fun | 23 => 59 | 26 => 3 | 3 => 47 | 28 => 83 | 0 => 0 | 27 => 82 | 33 => 77 | 4 => 4 | n => n, fun | n => n⟩
theorem Tryz.keysA : Go.Proofs.SlLaysZI.n7 Tryz.prog Tryz.keysA_ren := {
  mixed := by kernel_rfl
  f7 := ⟨Tryz.f33.name, by decide, Tryz.func33.trans (congrArg some (by kernel_rfl))⟩
  f10 := ⟨Tryz.f60.name, by decide, Tryz.func60.trans (congrArg some (by kernel_rfl))⟩
  t0 := Tryz.underlying0
  a0 := Tryz.isAgg0
  z0 := Tryz.sizeOf0
  v0 := Tryz.zeroValue0
  t4 := Tryz.underlying4
  a4 := Tryz.isAgg4
  z4 := Tryz.sizeOf4
  v4 := Tryz.zeroValue4
  t23 := Tryz.underlying59
  a23 := Tryz.isAgg59
  z23 := Tryz.sizeOf59
  v23 := Tryz.zeroValue59
  t26 := Tryz.underlying3
  a26 := Tryz.isAgg3
  z26 := Tryz.sizeOf3
  v26 := Tryz.zeroValue3
  t27 := Tryz.underlying82
  a27 := Tryz.isAgg82
  z27 := Tryz.sizeOf82
  v27 := Tryz.zeroValue82
  t28 := Tryz.underlying83
  a28 := Tryz.isAgg83
  z28 := Tryz.sizeOf83
  v28 := Tryz.zeroValue83
  t33 := Tryz.underlying77
  a33 := Tryz.isAgg77
  z33 := Tryz.sizeOf77
  v33 := Tryz.zeroValue77 }
def Tryz.sortedA_ren : Go.Shelf.Ren := ⟨fun | 6 => 32 | 8 => 58 | 9 => 59 | 11 => 72 | 13 => 74 | 12 => 73 | 23 => 89 | 24 => 90 | 14 => 80 | 15 => 81 | 16 => 82 | 17 => 83 | 18 => 84 | 19 => 85 | 20 => 86 | 21 => 87 | 22 => 88 | 25 => 94 | 26 => 95 | 27 => 96 | 28 => 97 | 29 => 98 | 30 => 99 | 31 => 102 | n => n, fun | 26 => 3 | 28 => 83 | 24 => 22 | 0 => 0 | 3 => 3 | 37 => 122 | 48 => 140 | 50 => 142 | 4 => 4 | 40 => 133 | 39 => 132 | 45 => 137 | 5 => 5 | 9 => 9 | 51 => 144 | 55 => 148 | 57 => 151 | 58 => 95 | 33 => 77 | n => n, fun | n => n⟩
theorem Tryz.sortedA : Go.Proofs.SlLaysZI.n6 Tryz.prog Tryz.sortedA_ren := {
  mixed := by kernel_rfl
  f6 := ⟨Tryz.f32.name, by decide, Tryz.func32.trans (congrArg some (by kernel_rfl))⟩
  f8 := ⟨Tryz.f58.name, by decide, Tryz.func58.trans (congrArg some (by kernel_rfl))⟩
  f11 := ⟨Tryz.f72.name, by decide, Tryz.func72.trans (congrArg some (by kernel_rfl))⟩
  t0 := Tryz.underlying0
  a0 := Tryz.isAgg0
  z0 := Tryz.sizeOf0
  v0 := Tryz.zeroValue0
  t24 := Tryz.underlying22
  a24 := Tryz.isAgg22
  z24 := Tryz.sizeOf22
  v24 := Tryz.zeroValue22
  t26 := Tryz.underlying3
  a26 := Tryz.isAgg3
  z26 := Tryz.sizeOf3
  v26 := Tryz.zeroValue3
  t28 := Tryz.underlying83
  a28 := Tryz.isAgg83
  z28 := Tryz.sizeOf83
  v28 := Tryz.zeroValue83
  i26 := by kernel_rfl }
def Tryz.sortA_ren : Go.Shelf.Ren := ⟨fun | 5 => 59 | 8 => 74 | 7 => 73 | 19 => 89 | 20 => 90 | 10 => 80 | 11 => 81 | 12 => 82 | 13 => 83 | 14 => 84 | 15 => 85 | 16 => 86 | 17 => 87 | 18 => 88 | 30 => 94 | 31 => 95 | 32 => 96 | 33 => 97 | 34 => 98 | 35 => 99 | 40 => 102 | n => n, fun | 23 => 22 | 25 => 3 | 3 => 3 | 32 => 122 | 22 => 22 | 0 => 0 | 44 => 140 | 46 => 142 | 4 => 4 | 36 => 133 | 35 => 132 | 41 => 137 | 5 => 5 | 9 => 9 | 53 => 144 | 57 => 148 | 63 => 151 | 64 => 95 | n => n, fun | n => n⟩
theorem Tryz.sortA : Go.Proofs.SlLaysM.n5 Tryz.prog Tryz.sortA_ren := {
  mixed := by kernel_rfl
  f5 := ⟨Tryz.f59.name, by decide, Tryz.func59.trans (congrArg some (by kernel_rfl))⟩
  f7 := ⟨Tryz.f73.name, by decide, Tryz.func73.trans (congrArg some (by kernel_rfl))⟩
  f8 := Tryz.func74.trans (congrArg some (by kernel_rfl))
  f10 := ⟨Tryz.f80.name, by decide, Tryz.func80.trans (congrArg some (by kernel_rfl))⟩
  f11 := ⟨Tryz.f81.name, by decide, Tryz.func81.trans (congrArg some (by kernel_rfl))⟩
  f12 := ⟨Tryz.f82.name, by decide, Tryz.func82.trans (congrArg some (by kernel_rfl))⟩
  f13 := ⟨Tryz.f83.name, by decide, Tryz.func83.trans (congrArg some (by kernel_rfl))⟩
  f14 := ⟨Tryz.f84.name, by decide, Tryz.func84.trans (congrArg some (by kernel_rfl))⟩
  f15 := ⟨Tryz.f85.name, by decide, Tryz.func85.trans (congrArg some (by kernel_rfl))⟩
  f16 := ⟨Tryz.f86.name, by decide, Tryz.func86.trans (congrArg some (by kernel_rfl))⟩
  f17 := ⟨Tryz.f87.name, by decide, Tryz.func87.trans (congrArg some (by kernel_rfl))⟩
  f18 := ⟨Tryz.f88.name, by decide, Tryz.func88.trans (congrArg some (by kernel_rfl))⟩
  f19 := Tryz.func89.trans (congrArg some (by kernel_rfl))
  f20 := Tryz.func90.trans (congrArg some (by kernel_rfl))
  f30 := ⟨Tryz.f94.name, by decide, Tryz.func94.trans (congrArg some (by kernel_rfl))⟩
  f31 := Tryz.func95.trans (congrArg some (by kernel_rfl))
  f32 := Tryz.func96.trans (congrArg some (by kernel_rfl))
  f33 := ⟨Tryz.f97.name, by decide, Tryz.func97.trans (congrArg some (by kernel_rfl))⟩
  f34 := ⟨Tryz.f98.name, by decide, Tryz.func98.trans (congrArg some (by kernel_rfl))⟩
  f35 := ⟨Tryz.f99.name, by decide, Tryz.func99.trans (congrArg some (by kernel_rfl))⟩
  f40 := ⟨Tryz.f102.name, by decide, Tryz.func102.trans (congrArg some (by kernel_rfl))⟩
  t0 := Tryz.underlying0
  a0 := Tryz.isAgg0
  z0 := Tryz.sizeOf0
  v0 := Tryz.zeroValue0
  t3 := Tryz.underlying3
  a3 := Tryz.isAgg3
  z3 := Tryz.sizeOf3
  v3 := Tryz.zeroValue3
  t4 := Tryz.underlying4
  a4 := Tryz.isAgg4
  z4 := Tryz.sizeOf4
  v4 := Tryz.zeroValue4
  t5 := Tryz.underlying5
  a5 := Tryz.isAgg5
  z5 := Tryz.sizeOf5
  v5 := Tryz.zeroValue5
  t9 := Tryz.underlying9
  a9 := Tryz.isAgg9
  z9 := Tryz.sizeOf9
  v9 := Tryz.zeroValue9
  t22 := Tryz.underlying22
  a22 := Tryz.isAgg22
  z22 := Tryz.sizeOf22
  v22 := Tryz.zeroValue22
  t23 := Tryz.underlying22
  a23 := Tryz.isAgg22
  z23 := Tryz.sizeOf22
  v23 := Tryz.zeroValue22
  t25 := Tryz.underlying3
  a25 := Tryz.isAgg3
  z25 := Tryz.sizeOf3
  v25 := Tryz.zeroValue3
  t32 := Tryz.underlying122
  a32 := Tryz.isAgg122
  z32 := Tryz.sizeOf122
  v32 := Tryz.zeroValue122
  t35 := Tryz.underlying132
  a35 := Tryz.isAgg132
  z35 := Tryz.sizeOf132
  v35 := Tryz.zeroValue132
  t36 := Tryz.underlying133
  a36 := Tryz.isAgg133
  z36 := Tryz.sizeOf133
  v36 := Tryz.zeroValue133
  t41 := Tryz.underlying137
  a41 := Tryz.isAgg137
  z41 := Tryz.sizeOf137
  v41 := Tryz.zeroValue137
  t44 := Tryz.underlying140
  a44 := Tryz.isAgg140
  z44 := Tryz.sizeOf140
  v44 := Tryz.zeroValue140
  t46 := Tryz.underlying142
  a46 := Tryz.isAgg142
  z46 := Tryz.sizeOf142
  v46 := Tryz.zeroValue142
  t53 := Tryz.underlying144
  a53 := Tryz.isAgg144
  z53 := Tryz.sizeOf144
  v53 := Tryz.zeroValue144
  t57 := Tryz.underlying148
  a57 := Tryz.isAgg148
  z57 := Tryz.sizeOf148
  v57 := Tryz.zeroValue148
  t63 := Tryz.underlying151
  a63 := Tryz.isAgg151
  z63 := Tryz.sizeOf151
  v63 := Tryz.zeroValue151
  t64 := Tryz.underlying95
  a64 := Tryz.isAgg95
  z64 := Tryz.sizeOf95
  v64 := Tryz.zeroValue95 }
end Go.Proofs.YtcagpmglijockaaGreatDoor
/-
  Sorting a list of one's own; lists that rise.
-/
namespace Go.Proofs.YtcagpmglijockaaGreatDoor
open Go.RowKit Go.Sort

/-- two rising lists that hold the same are one -/
theorem rise_ext : ∀ {l l' : List Int}, l.Pairwise (· < ·) → l'.Pairwise (· < ·) → (∀ x, x ∈ l ↔ x ∈ l') → l = l'
  | [], [], _, _, _ => rfl
  | [], y :: l', _, _, h => absurd ((h y).2 (List.mem_cons_self ..)) (List.not_mem_nil)
  | x :: l, [], _, _, h => absurd ((h x).1 (List.mem_cons_self ..)) (List.not_mem_nil)
  | x :: l, y :: l', h1, h2, h => by
    rw [List.pairwise_cons] at h1 h2
    have e : x = y := by
      rcases List.mem_cons.1 ((h x).1 (List.mem_cons_self ..)) with e | e
      · exact e
      · rcases List.mem_cons.1 ((h y).2 (List.mem_cons_self ..)) with f | f
        · exact f.symm
        · have := h2.1 x e
          have := h1.1 y f
          omega
    subst e
    have ih := rise_ext h1.2 h2.2 (fun z => by
      constructor
      · intro hz
        rcases List.mem_cons.1 ((h z).1 (List.mem_cons_of_mem _ hz)) with e | e
        · have := h1.1 z hz; omega
        · exact e
      · intro hz
        rcases List.mem_cons.1 ((h z).2 (List.mem_cons_of_mem _ hz)) with e | e
        · have := h2.1 z hz; omega
        · exact e)
    rw [ih]
abbrev intsN (l : List Nat) : List Int := l.map fun n : Nat => (n : Int)
theorem mem_intsN {l : List Nat} {x : Int} : x ∈ intsN l ↔ ∃ n : Nat, n ∈ l ∧ x = n := by
  unfold intsN
  rw [List.mem_map]
  exact ⟨fun ⟨n, h, e⟩ => ⟨n, h, e.symm⟩, fun ⟨n, h, e⟩ => ⟨n, h, e.symm⟩⟩
theorem rise_intsN {l : List Nat} (h : l.Pairwise (· < ·)) : (intsN l).Pairwise (· < ·) := by
  unfold intsN
  rw [List.pairwise_map]
  exact h.imp (fun h => by omega)
/-- two rising lists of naturals that hold the same are one -/
theorem rise_eq {l l' : List Nat} (h1 : l.Pairwise (· < ·)) (h2 : l'.Pairwise (· < ·)) (h : ∀ n, n ∈ l ↔ n ∈ l') : l = l' := by
  have := rise_ext (rise_intsN h1) (rise_intsN h2) (fun x => by
    rw [mem_intsN, mem_intsN]
    exact ⟨fun ⟨n, a, b⟩ => ⟨n, (h n).1 a, b⟩, fun ⟨n, a, b⟩ => ⟨n, (h n).2 a, b⟩⟩)
  have q := congrArg (List.map Int.toNat) this
  simpa [intsN, List.map_map, Function.comp_def] using q
/-- a list sorted: it rises if nothing is there twice -/
theorem srt_ex (L : List Nat) (hn : L.Nodup) : ∃ l : List Nat, l.Pairwise (· < ·) ∧ (∀ n, n ∈ l ↔ n ∈ L) ∧ l.length = L.length ∧ (intsN L).mergeSort (fun x y => decide (x ≤ y)) = intsN l := by
  have hp := List.mergeSort_perm (intsN L) (fun x y => decide (x ≤ y))
  have hs : ((intsN L).mergeSort (fun x y => decide (x ≤ y))).Pairwise (fun x y => decide (x ≤ y) = true) := List.pairwise_mergeSort (fun a b c h1 h2 => by simp at *; omega) (fun a b => by simp; omega) (intsN L)
  have hnI : (intsN L).Nodup := by
    unfold intsN List.Nodup
    rw [List.pairwise_map]
    exact hn.imp (fun h e => h (by omega))
  have hnd := hp.nodup_iff.2 hnI
  generalize (intsN L).mergeSort (fun x y => decide (x ≤ y)) = Z at *
  have hlt : Z.Pairwise (· < ·) := by
    have := hs.and hnd
    refine this.imp ?_
    rintro a b ⟨h1, h2⟩
    have := of_decide_eq_true h1
    omega
  have hz : ∀ x ∈ Z, 0 ≤ x := fun x hx => by
    obtain ⟨n, _, e⟩ := mem_intsN.1 (hp.mem_iff.1 hx)
    omega
  have eZ : intsN (Z.map Int.toNat) = Z := by
    unfold intsN
    rw [List.map_map]
    conv => rhs; rw [← List.map_id Z]
    exact List.map_congr_left (fun x hx => by
      have := hz x hx
      simp
      omega)
  refine ⟨Z.map Int.toNat, ?_, fun n => ?_, ?_, eZ.symm⟩
  · rw [List.pairwise_map]
    refine List.Pairwise.imp_of_mem ?_ hlt
    intro a b ha hb h
    have := hz a ha
    omega
  · rw [List.mem_map]
    constructor
    · rintro ⟨x, hx, rfl⟩
      obtain ⟨m, hm, e⟩ := mem_intsN.1 (hp.mem_iff.1 hx)
      rw [e]; exact hm
    · intro hn
      exact ⟨n, hp.mem_iff.2 (mem_intsN.2 ⟨n, hn, rfl⟩), by simp⟩
  · rw [List.length_map, hp.length_eq]
    simp [intsN]

/-- a list without doubles below a number is not longer -/
theorem nodup_len : ∀ (N : Nat) {L : List Nat}, L.Nodup → (∀ n ∈ L, n < N) → L.length ≤ N
  | 0, [], _, _ => Nat.le_refl _
  | 0, x :: _, _, h => absurd (h x (List.mem_cons_self ..)) (Nat.not_lt_zero _)
  | N + 1, L, hn, h => by
    have h1 := nodup_len N (L := L.erase N) (hn.erase N) (fun n hm => by
      have := (hn.mem_erase_iff).1 hm
      have := h n this.2
      omega)
    have h2 : L.length ≤ (L.erase N).length + 1 := by
      rw [List.length_erase]
      split <;> omega
    omega

theorem own_grown {w w' : World} {base e n : Nat} {row : Option Nat} {k : Nat} {v : Value} {xs : List Value} (h : w.ownsRow base e k v n xs) (hg : w.grownBy w' row) (hne : ∀ g, v.ownBlock = some g → some g ≠ row) : w'.ownsRow base e k v n xs := by
  refine h.kept hg ?_
  cases hv : v.ownBlock with
  | none => exact Or.inl rfl
  | some g => exact Or.inr (hne g hv)
theorem own_keep {F : Nat → Prop} {w w' : World} {base e k n : Nat} {v : Value} {xs : List Value} (h : w.ownsRow base e k v n xs) (K : Keep F w w') (hne : ∀ g, v.ownBlock = some g → ¬ F g) : w'.ownsRow base e k v n xs := by
  refine ⟨h.1, ?_⟩
  rcases h.2 with h2 | ⟨g, cap, cur, hv, hbase, hg, h3⟩
  · exact Or.inl h2
  · refine Or.inr ⟨g, cap, cur, hv, hbase, (K.block g (Array.getElem?_eq_some_iff.1 hg).1 (hne g (by rw [hv]; rfl))).trans hg, h3⟩
theorem own_map {P : Program} {kt : TypeId} {w : World} {b m : Nat} {f : Int → Option Value} {base e k n : Nat} {v : Value} {xs : List Value} (h : w.ownsRow base e k v n xs) (M : MapF P kt w b f m) : ∀ g, v.ownBlock = some g → g ≠ b := by
  intro g hg e
  obtain ⟨D, ⟨es, clock, h1, _⟩, _⟩ := M
  rcases h.2 with ⟨rfl, _⟩ | ⟨g', cap, cur, rfl, _, hgg, _⟩
  · cases hg
  · simp only [Value.ownBlock, Option.some.injEq] at hg
    rw [hg, e, h1] at hgg
    cases hgg

/-- slices.Sort on a list of one's own -/
theorem sort_row {base : Nat} {v : Value} {L l : List Nat} (w : World) (h : w.ownsRow base 3 1 v L.length (vals L)) (hne : L ≠ []) (hl : l.length = L.length) (hs : (intsN L).mergeSort (fun x y => decide (x ≤ y)) = intsN l) (hlen : L.length ≤ 256) :
    Calls Tryz.prog 59 #[v] w fun e w' => e = .returned (.tuple #[]) ∧ w'.ownsRow base 3 1 v l.length (vals l) ∧ w.grownBy w' v.ownBlock := by
  rcases h.2 with ⟨_, h0⟩ | ⟨g, cap, cur, rfl, hbase, hg, h1, h2, h3, h4⟩
  · exact absurd (List.length_eq_zero_iff.1 h0) hne
  · have hv : vals L = (intsN L).map (Value.int .i64) := by simp [vals, intsN]
    have hv' : vals l = (intsN l).map (Value.int .i64) := by simp [vals, intsN]
    have hL : (intsN L).length = L.length := by simp [intsN]
    have hl' : (intsN l).length = (intsN L).length := by simp [intsN, hl]
    have hH : Go.Sort.Holds (Value.int .i64) w g 0 (intsN L).toArray := holds_of_blockI hg (by rw [hL, ← hv]; simpa using h4)
    have hc := AnyM.slices_Sort_int Tryz.sortA g 0 cap (intsN L) w hH (Array.getElem?_eq_some_iff.1 hg).1 (by rw [hL]; omega)
    rw [hs, hL] at hc
    refine hc.mono ?_
    rintro e w' ⟨rfl, n, os, rfl⟩
    refine ⟨rfl, ?_, grownBy_sortedI _⟩
    have := ownsRow_sortedI (base := base) (n := n) (os := os) (ss := intsN L) (ts := intsN l) hl' hbase hg (by rw [hL]; exact h1) h2 h3
    rw [hL] at this
    rw [hl, hv']
    exact this
end Go.Proofs.YtcagpmglijockaaGreatDoor
/-
  All that is directly near a cell: package reach's 'AllDirect'.
-/
namespace Go.Proofs.YtcagpmglijockaaGreatDoor
open Go.RowKit

theorem errV_nil : errV 0 = .nilIface := rfl
theorem errV_some {n : Int} (h : n ≠ 0) : errV n = .iface 75 (.int .i64 n) := by unfold errV; rw [if_neg h]

set_option maxHeartbeats 400000 in
theorem alldir_err {b : Nat} {W H V : Int} {bl : Nat → Bool} (a : Int) (w : World) (g : GridAt w b W H V bl) (hf : ffv W H bl a ≠ 0) :
    Calls Tryz.prog 62 #[.pointer (some ⟨b, 0, none⟩), .int .i64 a] w fun e w' => e = .returned (.tuple #[.slice none 0 0, errV (ffv W H bl a)]) ∧ Below w.heap.size w w' := by
  have h1 := check_any a w g
  rw [errV_some hf] at h1 ⊢
  go_enter Tryz.func62, Tryz.ntmps62
  go_wp2_with fail
  refine h1.mono ?_
  rintro e w1 ⟨rfl, hb1⟩
  clear h1
  go_wp2
  go_ret2
  exact ⟨rfl, hb1⟩

theorem own_rng {P : Program} {kt : TypeId} {w : World} {b r m cnt : Nat} {f : Int → Option Value} {left : Int → Bool} {base e k n : Nat} {v : Value} {xs : List Value} (h : w.ownsRow base e k v n xs) (M : RngF P kt w b r f m left cnt) : ∀ g, v.ownBlock = some g → some g ≠ some r := by
  intro g hg e
  obtain ⟨D, lf, ⟨es, clock, since, seen, c0, h1, h2, h3, h4, h5, h6⟩, h7⟩ := M
  rcases h.2 with ⟨rfl, _⟩ | ⟨g', cap, cur, rfl, _, hgg, _⟩
  · cases hg
  · simp only [Value.ownBlock, Option.some.injEq] at hg
    rw [hg, Option.some.inj e, h5] at hgg
    cases hgg

set_option maxHeartbeats 4000000 in
set_option maxRecDepth 1000000 in
theorem alldir_ok {b : Nat} {W H V a : Int} {bl : Nat → Bool} (w : World) (g : GridAt w b W H V bl) (s : StepsAt w) (hb : b < w.heap.size) (ha : inB W H a = true) (hfree : bl a.toNat = false) :
    Calls Tryz.prog 62 #[.pointer (some ⟨b, 0, none⟩), .int .i64 a] w fun e w' => ∃ v l, e = .returned (.tuple #[v, .nilIface]) ∧ w'.ownsRow w.heap.size 3 1 v l.length (vals l) ∧ (l.Pairwise (· < ·) ∧ ∀ n : Nat, n ∈ l ↔ Dir W H bl a n) ∧ Below w.heap.size w w' := by
  have gw1 := g.w1
  have gw2 := g.w2
  have gh1 := g.h1
  have gh2 := g.h2
  have hwh := wh_bd g.w1 g.w2 g.h1 g.h2
  have hia : 0 ≤ a ∧ a < W * H := of_decide_eq_true ha
  have hwa := wf_small hia.1 (show a < 256 by omega)
  have HBD : Hid (∀ r, Nr W H bl a r → octS W a r ≤ 1000 ∧ octD W a r ≤ 1000) := fun r hr => by
    have := oct_small gw1 gw2 gh1 gh2 ha (hr.in gw1 ha)
    omega
  have HDI : Hid (∀ n : Int, Dir W H bl a n ↔ Nr W H bl a n ∧ ¬ Bhd W H bl a n) := fun n => by
    constructor
    · intro hd
      have := oct_small gw1 gw2 gh1 gh2 ha (hd.in gw1 ha)
      exact (Dir.iff gw1 (by omega) (by omega)).1 hd
    · intro hd
      obtain ⟨q1, q2⟩ := HBD.out n hd.1
      exact (Dir.iff gw1 q1 q2).2 hd
  have HIN : Hid (∀ n : Int, Nr W H bl a n → 0 ≤ n ∧ n < 256 ∧ inB W H n = true ∧ octN W a n ≤ 32) := fun n hn => by
    have h1 := hn.in gw1 ha
    have h2 : 0 ≤ n ∧ n < W * H := of_decide_eq_true h1
    have := oct_small gw1 gw2 gh1 gh2 ha h1
    exact ⟨h2.1, by omega, h1, by unfold octN; omega⟩
  obtain ⟨i0, hi, hz0, hz1, hz2⟩ := info_parts Tryz.info3
  have h1 := check_any a w g
  rw [ffv_zero ha hfree, errV_nil] at h1
  have hmm := @run_makeMap Tryz.prog
  go_enter Tryz.func62, Tryz.ntmps62
  go_wp2_with fail
  refine h1.mono ?_
  rintro e w1 ⟨rfl, hb1⟩
  clear h1
  have hM0 := (SetAt.made w1).grown (World.grownBy_alloc (w1.alloc (.map #[] 0)) (.map #[] 0) none) (by simp)
  have hM1 := SetAt.made (w1.alloc (.map #[] 0))
  have hzz : (w1.alloc (.map #[] 0)).heap.size = w1.heap.size + 1 := by simp
  have B0 : Below w.heap.size w ((w1.alloc (.map #[] 0)).alloc (.map #[] 0)) := (hb1.alloc hb1.size _).alloc (by have := hb1.size; simp; omega) _
  rw [hzz] at hM1
  go_wp2_with (first | (refine wpList_ins rfl _ _ _ 123 rfl 3 109 law3 Tryz.underS (w1.heap.size + 1) _ _ (by first | rfl | (rw [hzz]; rfl)) hM1.mp hM1.room a (.agg #[]) rfl rfl hwa ?_; intro w2 hm2 ht2; go_frame) | go_in)
  have hF0 := hM1.put hia.1 (show a < 256 by omega) hm2
  have hg2 := ht2.grown
  have hA0 := hM0.grown hg2 (fun e => by have := Option.some.inj e; omega)
  have B1 : Below w.heap.size w w2 := B0.grown hg2 (by have := hb1.size; simp; omega) (fun k e => by cases e; have := hb1.size; omega)
  have hz1' := hb1.size
  clear hM0 hM1 hzz B0 hm2 ht2 hg2 hmm
  generalize hbb : w1.heap.size = bb at *
  clear hbb hb1
  go_loopg [7, 9] 60 (fun gk dv fv wr => ∃ (i fb : Nat) (SF SB : Int → Bool) (L : List Nat), gk = 60 - i ∧ fv = .map (some fb) ∧ bb < fb ∧ SetAt wr fb SF ∧ SetAt wr bb SB ∧ Hid (∀ z, SF z = true ↔ Nr W H bl a z ∧ octN W a z = i) ∧ Hid (∀ z, SB z = true ↔ (Nr W H bl a z ∧ octN W a z ≤ i) ∧ Bhd W H bl a z) ∧
      wr.ownsRow w.heap.size 3 1 dv L.length (vals L) ∧ L.Nodup ∧ Hid (∀ n : Nat, n ∈ L ↔ Dir W H bl a n ∧ octN W a n < i) ∧ Below w.heap.size w wr)
  case atStart =>
    refine ⟨0, _, _, _, [], rfl, rfl, Nat.lt_succ_self _, hF0, hA0, fun z => ?_, fun z => ⟨fun h => (by cases h), ?_⟩, World.ownsRow_nil _ _ _ _, List.nodup_nil, fun n => ?_, B1⟩
    · rw [insS_iff]
      constructor
      · rintro (rfl | h)
        · exact ⟨Nr.self, by rw [octN_self]; rfl⟩
        · cases h
      · rintro ⟨h1, h2⟩
        exact Or.inl (octN_zero h2)
    · rintro ⟨⟨h1, h2⟩, h3⟩
      have := octN_nonneg W a z
      have e := octN_zero (W := W) (a := a) (r := z) (by simp at h2; omega)
      rw [e] at h3
      exact absurd h3 (Bhd.not_self gw1)
    · have := octN_nonneg W a n
      simp
      omega
  case round =>
    obtain ⟨i, fb, SF, SB, L, hgk, rfl, hfb, hF, hB, hFi, hBi, hown, hnd, hLi, hBw⟩ := hrel
    have hlen := fun ty => hF.mp.len (t := 123) Tryz.underS ty
    have hne := hF.ne_nil
    have hLL : L.length ≤ 256 := nodup_len 256 hnd (fun n hn => by
      have := HIN.out n ((HDI.out n).1 ((hLi.out n).1 hn).1).1
      omega)
    have HND : Hid L.Nodup := hnd
    clear hnd
    by_cases hpos : 0 < cntS SF 256
    · obtain ⟨z, hz⟩ := hne.1 hpos
      have hz' := (hFi.out z).1 hz
      have hzn := HIN.out z hz'.1
      have hcp : (0 : Int) < ((cntS SF 256 : Nat) : Int) := by omega
      have hle : i ≤ 32 := by omega
      clear hne hz hz' hzn
      have hbz := hBw.size
      have hfl := hF.lt
      have hbl := hB.lt
      go_wp2_with (first | (at_range; refine wpList_rangeF rfl _ 123 rfl 3 109 law3 Tryz.underS fb _ _ rfl hF.mp ?_; intro w3 hrg3 hg3 hs3) | go_in)
      have hB3 := hB.grown hg3 (by simp)
      have hown3 := own_grown hown hg3 (by simp)
      have hB3' : Below w.heap.size w w3 := hBw.grown hg3 hbz (by simp)
      generalize hr : wr.heap.size = r at *
      clear hown hB hBw hg3 hlen
      go_frame
      go_loopg [7] (cntS SF 256) (fun gj dv' wq => ∃ (left : Int → Bool) (cnt : Nat) (L' : List Nat), gj = cnt ∧ RngS wq fb r SF left cnt ∧ SetAt wq bb SB ∧ wq.ownsRow w.heap.size 3 1 dv' L'.length (vals L') ∧ Hid L'.Nodup ∧ Hid (∀ n : Nat, n ∈ L' ↔ n ∈ L ∨ ((SF n = true ∧ left n = false) ∧ SB n = false)) ∧ Below w.heap.size w wq ∧ r < wq.heap.size)
      case atStart =>
        refine ⟨_, _, L, rfl, hrg3, hB3, hown3, HND.out, fun n => ⟨Or.inl, ?_⟩, hB3', by omega⟩
        rintro (h | ⟨⟨h1, h2⟩, _⟩)
        · exact h
        · rw [setF_isSome, h1] at h2
          cases h2
      case round =>
        obtain ⟨left, cnt, L', hgj, hrg, hBq, hown, hnd, hLq, hBw, hrq⟩ := hrel
        have hbq := hBw.size
        have hLL' : L'.length ≤ 256 := nodup_len 256 hnd.out (fun n hn => by
          rcases (hLq.out n).1 hn with h | h
          · have := HIN.out n ((HDI.out n).1 ((hLi.out n).1 h).1).1
            omega
          · have := HIN.out n ((hFi.out n).1 h.1.1).1
            omega)
        go_wp2_with (first | (at_next; refine wpList_nextF rfl _ rfl 3 law3 fb r _ _ _ _ rfl hrg ?_ ?_) | go_in)
        · intro hc0 hl0
          have hFq : SetAt wr fb SF := ⟨hrg.map, hF.bd⟩
          have hgo := goOut_any wr (g.below hBw hb) (s.below hBw (by omega)) (Nat.lt_of_lt_of_le hb hBw.size) hFq hBq (Nat.ne_of_gt hfb) (by omega) (by omega) (fun z hz => (HIN.out z ((hFi.out z).1 hz).1).2.2.1) ha (fun c k z hc ho => by
            cases hz : SF z with
            | false => rfl
            | true =>
              have h1 := (hFi.out c).1 hc
              have h2 := (hFi.out z).1 hz
              have := ho.next gw1
              omega)
          have hnm := own_map hown hBq.mp
          clear hrg hFq
          go_wp2_with fail
          refine hgo.mono ?_
          rintro e w5 ⟨nb, T, B', rfl, hT, hB', hTi, hB'i, hnb, hK⟩
          have hown5 := own_keep hown hK hnm
          have B5 : Below w.heap.size w w5 := hBw.trans (hK.to_below hBw.size (fun k e => by omega))
          clear hgo hown hK hBq hnm
          go_wp2
          go_roundg (60 - (i + 1))
          case measure => omega
          case rel =>
            refine ⟨i + 1, nb, T, B', L', rfl, rfl, by omega, hT, hB', fun z => ?_, fun z => ?_, hown5, hnd.out, fun n => ?_, B5⟩
            · rw [hTi z]
              constructor
              · rintro ⟨c, k, h1, h2⟩
                obtain ⟨q1, q2⟩ := (hFi.out c).1 h1
                have := h2.next gw1
                exact ⟨q1.out gw1 h2, by omega⟩
              · rintro ⟨h1, h2⟩
                obtain ⟨q1, q2⟩ := HBD.out z h1
                obtain ⟨c, k, h3, h4⟩ := h1.prev gw1 q1 q2 (fun e => by rw [e, octN_self] at h2; omega)
                have := h4.next gw1
                exact ⟨c, k, (hFi.out c).2 ⟨h3, by omega⟩, h4⟩
            · rw [hB'i z]
              constructor
              · rintro (h | ⟨c, k, h1, h2, h3⟩)
                · obtain ⟨⟨q1, q2⟩, q3⟩ := (hBi.out z).1 h
                  exact ⟨⟨q1, by omega⟩, q3⟩
                · obtain ⟨q1, q2⟩ := (hFi.out c).1 h1
                  have := h2.next gw1
                  have hz := q1.out gw1 h2
                  obtain ⟨b1, b2⟩ := HBD.out z hz
                  refine ⟨⟨hz, by omega⟩, (Bhd.iff gw1 b1 b2).2 ⟨c, k, q1, h2, ?_⟩⟩
                  rcases h3 with h3 | ⟨h3, h4⟩
                  · exact Or.inl ((hBi.out c).1 h3).2
                  · exact Or.inr ⟨cornB_iff.1 h3, h4⟩
              · rintro ⟨⟨q1, q2⟩, q3⟩
                by_cases hle2 : octN W a z ≤ i
                · exact Or.inl ((hBi.out z).2 ⟨⟨q1, hle2⟩, q3⟩)
                · obtain ⟨b1, b2⟩ := HBD.out z q1
                  obtain ⟨c, k, h1, h2, h3⟩ := (Bhd.iff gw1 b1 b2).1 q3
                  have := h2.next gw1
                  refine Or.inr ⟨c, k, (hFi.out c).2 ⟨h1, by omega⟩, h2, ?_⟩
                  rcases h3 with h3 | ⟨h3, h4⟩
                  · exact Or.inl ((hBi.out c).2 ⟨⟨h1, by omega⟩, h3⟩)
                  · exact Or.inr ⟨cornB_iff.2 h3, h4⟩
            · rw [hLq.out n, hLi.out n, hFi.out n, HDI.out n]
              constructor
              · rintro (⟨h1, h2⟩ | ⟨⟨⟨h1, h2⟩, _⟩, h3⟩)
                · exact ⟨h1, by omega⟩
                · refine ⟨⟨h1, fun hb => ?_⟩, by omega⟩
                  have := (hBi.out n).2 ⟨⟨h1, by omega⟩, hb⟩
                  rw [h3] at this; cases this
              · rintro ⟨h1, h2⟩
                by_cases hlt : octN W a n < i
                · exact Or.inl ⟨h1, hlt⟩
                · refine Or.inr ⟨⟨⟨h1.1, by omega⟩, hl0 n⟩, ?_⟩
                  cases hs : SB n with
                  | false => rfl
                  | true => exact absurd ((hBi.out n).1 hs).2 h1.2
        · intro x v w4 cnt1 hwx hlx hfx hrg1 hlt hg1 hs1 hen
          obtain ⟨hSx, rfl⟩ := setF_val hfx
          have hx := hF.bd x hSx
          have hBq1 := hBq.grown hg1 (fun e => by have := Option.some.inj e; omega)
          have hown4 := own_grown hown hg1 (own_rng hown hrg)
          have B4 : Below w.heap.size w w4 := hBw.grown hg1 hbq (fun k e => by cases e; omega)
          have hB5 := hBq1.grown (World.grownBy_alloc w4 (.cells #[] 109) none) (by simp)
          have hrg2 := hrg1.grown (World.grownBy_alloc w4 (.cells #[] 109) none) (by simp) (by simp)
          have hown5 := hown4.alloc (.cells #[] 109)
          have B5 := B4.alloc B4.size (.cells #[] 109)
          have hr5 : r < (w4.alloc (.cells #[] 109)).heap.size := by simp; omega
          cases hSB : SB x with
          | true =>
            have hlk : (Instr.lookup 123 (.map (some bb)) (.int .i64 x) true).run Tryz.prog w4 = .ok (.tuple #[.agg #[], .bool true]) w4 := hBq1.mp.look_some law3 Tryz.underS (zeroS _) hwx (setF_some hSB) true
            clear hrg hBw hBq hown hBq1 hown4 B4 hg1
            go_wp2
            go_roundg cnt1
            case measure => omega
            case rel =>
              refine ⟨_, cnt1, L', rfl, hrg2, hB5, hown5, hnd, fun n => ?_, B5, hr5⟩
              rw [hLq.out n]
              by_cases e : (n : Int) = x
              · rw [e]; simp [hSB]
              · simp [e]
          | false =>
            have hlk : (Instr.lookup 123 (.map (some bb)) (.int .i64 x) true).run Tryz.prog w4 = .ok (.tuple #[.agg #[], .bool false]) w4 := hBq1.mp.look_none law3 Tryz.underS (zeroS _) hwx (setF_none hSB) true
            clear hrg hBw hBq hown hBq1 hown4 B4 hg1
            have hz5 := B5.size
            obtain ⟨xn, hxn⟩ : ∃ xn : Nat, x = (xn : Int) := ⟨x.toNat, by omega⟩
            have HXN : Hid (x = (xn : Int)) := hxn
            clear hxn
            generalize hw5 : w4.alloc (.cells #[] 109) = w5 at *
            go_wp2_with (at_builtin; refine wpList_append_own _ rfl _ _ 22 rfl w.heap.size 3 i0 (.int .i64 0) 1 8 Tryz.underlying22 hi hz0 hz1 hz2 rfl (by decide) _ _ _ rfl (hown5.alloc _) ⟨w5.heap.size, 0, none⟩ 1 1 [.int .i64 x] rfl rfl ?c1 ?c2 ?c3 ?c4 ?c5 ?_)
            case c1 =>
              intro j u hj
              match j, hj with
              | 0, hj =>
                simp at hj; subst hj; simp only [Addr.add]
                exact World.cell?_alloc_at (w := w5) #[.int .i64 x] 3 w5.heap.size 0 rfl
            case c2 => intro u hu; simp at hu; subst hu; rfl
            case c3 => unfold maxLen; omega
            case c4 => omega
            case c5 => simp; omega
            intro v' w6 hown' hgrow _
            have hbase := fun q hq => (hown5.lt q hq).1
            have B6 : Below w.heap.size w w6 := (B5.alloc hz5 _).grown hgrow (by simp; omega) hbase
            have O6 : w6.ownsRow w.heap.size 3 1 v' (L' ++ [xn]).length (vals (L' ++ [xn])) := by
              rw [HXN.out] at hown'
              simpa [vals] using hown'
            have hrg6 := (hrg2.grown (World.grownBy_alloc w5 (.cells #[.int .i64 x] 3) none) (by simp) (by simp)).grown hgrow (fun e => own_map hown5 hrg2.map _ e.symm rfl) (fun e => own_rng hown5 hrg2 _ e.symm rfl)
            have hB6 := (hB5.grown (World.grownBy_alloc w5 (.cells #[.int .i64 x] 3) none) (by simp)).grown hgrow (fun e => own_map hown5 hB5.mp _ e.symm rfl)
            have hr6 : r < w6.heap.size := Nat.lt_of_lt_of_le hr5 (Nat.le_trans (by simp) hgrow.size)
            have HN : Hid (L' ++ [xn]).Nodup := by
              have hnm : xn ∉ L' := fun hm => by
                rcases (hLq.out xn).1 hm with h | h
                · have h1 := (hLi.out xn).1 h
                  rw [← HXN.out] at h1
                  have h2 := (hFi.out x).1 hSx
                  omega
                · rw [← HXN.out] at h
                  rw [hlx] at h
                  exact absurd h.1.2 (by decide)
              unfold Hid List.Nodup
              rw [List.pairwise_append]
              exact ⟨hnd.out, List.pairwise_singleton _ _, fun p hp q hq e => by
                rw [List.mem_singleton] at hq
                rw [e, hq] at hp
                exact hnm hp⟩
            clear hown' hgrow hown5 B5 hrg2 hB5
            go_wp2
            go_roundg cnt1
            case measure => omega
            case rel =>
              refine ⟨_, cnt1, L' ++ [xn], rfl, hrg6, hB6, O6, HN, fun n => ?_, B6, hr6⟩
              rw [List.mem_append, List.mem_singleton, hLq.out n]
              by_cases e : n = xn
              · subst e
                rw [← HXN.out]
                simp [hSB, hSx]
              · have e' : ¬ (n : Int) = x := fun q => e (by have := HXN.out; omega)
                simp [e, e']
    · have hno : ∀ z, SF z = false := fun z => by
        cases hz : SF z with
        | false => rfl
        | true => exact absurd (hne.2 ⟨z, hz⟩) hpos
      have hc0 : cntS SF 256 = 0 := by omega
      have hfin : ∀ n : Nat, n ∈ L ↔ Dir W H bl a n := fun n => by
        rw [hLi.out n]
        refine ⟨fun h => h.1, fun h => ⟨h, ?_⟩⟩
        by_cases q : octN W a n < i
        · exact q
        · exfalso
          have h1 := ((HDI.out n).1 h).1
          have h2 := octN_nonneg W a n
          obtain ⟨z', h3, h4⟩ := Nr.mid gw1 HBD.out (octN W a n).toNat n h1 (by omega) i (by omega)
          have := (hFi.out z').2 ⟨h3, h4⟩
          rw [hno z'] at this
          cases this
      have HF : Hid (∀ n : Nat, n ∈ L ↔ Dir W H bl a n) := hfin
      have hLne : L ≠ [] := fun e => by
        have h1 := (hfin a.toNat).2 (by rw [Int.toNat_of_nonneg hia.1]; exact Dir.self gw1)
        rw [e] at h1
        cases h1
      obtain ⟨l, l1, l2, l3, l4⟩ := srt_ex L HND.out
      have HL2 : Hid (∀ n, n ∈ l ↔ n ∈ L) := l2
      have HL1 : Hid (l.Pairwise (· < ·)) := l1
      have hso := sort_row wr hown hLne l3 l4 hLL
      have hbz := hBw.size
      have hbase := fun q hq => (hown.lt q hq).1
      rw [hc0] at hlen
      clear hfin hno hne hpos hFi hBi l1 l2 l3 l4 hLne hown hB hF hLi
      go_wp2_with fail
      refine hso.mono ?_
      rintro e w5 ⟨rfl, hown5, hg5⟩
      have B5 : Below w.heap.size w w5 := hBw.grown hg5 hbz hbase
      clear hso hg5 hbase
      go_wp2
      go_ret2
      exact ⟨_, l, rfl, hown5, ⟨HL1.out, fun n => (HL2.out n).trans (HF.out n)⟩, B5⟩
end Go.Proofs.YtcagpmglijockaaGreatDoor
