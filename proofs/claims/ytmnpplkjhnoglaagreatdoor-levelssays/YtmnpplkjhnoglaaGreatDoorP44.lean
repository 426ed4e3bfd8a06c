/-
  Texts laid together: RDirect, RCorner, CellA.
-/
import Derived.Test.YtmnpplkjhnoglaaGreatDoorP43
import Derived.Deep.LoopGhost
import Derived.Deep.Light
/-
  The reference's 'direct' over two rays.
-/
namespace Go.Proofs.YtmnpplkjhnoglaaGreatDoor
open Go.RowKit

/-- what lies in memory while the corners are gone over -/
structure Rays (w : World) (M X Y Z : Nat) (W H V : Int) (bl : Nat → Bool) (a b : Nat) (F G : Int → Option (Int × Int)) (qs qd : Int) : Prop where
  ra : RefAt w M W H V bl
  ml : M < w.heap.size
  rx : RayAt w X a F
  ry : RayAt w Y b G
  z0 : w.cell? ⟨Z, 0, none⟩ = some (.int .i64 qs)
  z1 : w.cell? ⟨Z, 1, none⟩ = some (.int .i64 qd)
theorem Rays.below {w w' : World} {M X Y Z : Nat} {W H V : Int} {bl : Nat → Bool} {a b : Nat} {F G : Int → Option (Int × Int)} {qs qd : Int} (h : Rays w M X Y Z W H V bl a b F G qs qd) {B : Nat} (hb : Below B w w') (hB : B = w.heap.size := by rfl) : Rays w' M X Y Z W H V bl a b F G qs qd := by
  subst hB
  have k : ∀ {a : Addr} {v : Value}, w.cell? a = some v → w'.cell? a = some v := fun {a v} h => (hb.cell (World.block_lt_of_cell? w a h)).trans h
  exact ⟨h.ra.below hb h.ml, Nat.lt_of_lt_of_le h.ml hb.size, h.rx.below hb, h.ry.below hb, k h.z0, k h.z1⟩

/-- a cell that is on, by both rays -/
def OnR (F G : Int → Option (Int × Int)) (qs qd : Int) (z : Int) : Prop := ∃ s d t u, F z = some (s, d) ∧ G z = some (t, u) ∧ s + t = qs ∧ d + u = qd

def Ten (w : World) (X Y Z z a b : Nat) (s d t u x y : Int) : Prop :=
  w.cell? ⟨X, 0, none⟩ = some (.int .i64 a) ∧ w.cell? ⟨Y, 0, none⟩ = some (.int .i64 b) ∧ w.cell? ⟨X, 513 + z, none⟩ = some (.bool true) ∧ w.cell? ⟨Y, 513 + z, none⟩ = some (.bool true) ∧ w.cell? ⟨X, 1 + z * 2, none⟩ = some (.int .i64 s) ∧ w.cell? ⟨X, 1 + z * 2 + 1, none⟩ = some (.int .i64 d) ∧ w.cell? ⟨Y, 1 + z * 2, none⟩ = some (.int .i64 t) ∧ w.cell? ⟨Y, 1 + z * 2 + 1, none⟩ = some (.int .i64 u) ∧ w.cell? ⟨Z, 0, none⟩ = some (.int .i64 x) ∧ w.cell? ⟨Z, 1, none⟩ = some (.int .i64 y)
theorem Ten.below {w w' : World} {X Y Z z a b : Nat} {s d t u x y : Int} (h : Ten w X Y Z z a b s d t u x y) (hb : Below w.heap.size w w') : Ten w' X Y Z z a b s d t u x y := by
  obtain ⟨h1, h2, h3, h4, h5, h6, h7, h8, h9, h10⟩ := h
  have k : ∀ {a : Addr} {v : Value}, w.cell? a = some v → w'.cell? a = some v := fun {a v} h => (hb.cell (World.block_lt_of_cell? w a h)).trans h
  exact ⟨k h1, k h2, k h3, k h4, k h5, k h6, k h7, k h8, k h9, k h10⟩

set_option maxHeartbeats 8000000 in
set_option maxRecDepth 1000000 in
theorem direct' {M n cap : Nat} {A : Option Addr} {W H V qs qd : Int} {bl : Nat → Bool} {a b : Nat} {F G : Int → Option (Int × Int)} {RA RB : List Value} {l : List Nat} (w : World) (g : RefAt w M W H V bl) (hml : M < w.heap.size)
    (hA : ∀ w : World, RayAt (w.alloc (.cells RA.toArray 103)) w.heap.size a F) (hB : ∀ w : World, RayAt (w.alloc (.cells RB.toArray 103)) w.heap.size b G)
    (hoc : ∀ w' : World, RefAt w' M W H V bl → Calls Tryz.prog 90 #[.pointer (some ⟨M, 0, none⟩), .int .i64 a, .int .i64 b] w' fun e w'' => e = .returned (.agg #[.int .i64 qs, .int .i64 qd]) ∧ Below w'.heap.size w' w'')
    (okA : ∀ z, okC (labS F z) (labD F z)) (okB : ∀ z, okC (labS G z) (labD G z)) (hb : b < 256) (hn : l.length = n) (hn2 : n ≤ 256) (hz : ∀ j, j < l.length → l.getD j 0 < 256) (hrow : OldRow w A n (fun i => (l.getD i 0 : Nat))) :
    Calls Tryz.prog 89 #[.pointer (some ⟨M, 0, none⟩), .agg RA.toArray, .agg RB.toArray, .slice A n cap] w fun e w' => ∃ r, e = .returned (.bool r) ∧ (r = true ↔ F b = some (qs, qd) ∧ ∀ j, j < l.length → l.getD j 0 ≠ a → l.getD j 0 ≠ b → ¬ OnR F G qs qd (l.getD j 0 : Nat)) ∧ Below w.heap.size w w' := by
  subst hn
  have hx0 := hA w
  have B1 : Below w.heap.size w (w.alloc (.cells RA.toArray 103)) := (Below.refl _ _).alloc (Nat.le_refl _) _
  have hy0 := hB (w.alloc (.cells RA.toArray 103))
  have bA : Below (w.alloc (.cells RA.toArray 103)).heap.size (w.alloc (.cells RA.toArray 103)) ((w.alloc (.cells RA.toArray 103)).alloc (.cells RB.toArray 103)) := (Below.refl _ _).alloc (Nat.le_refl _) _
  have hx1 := hx0.below bA
  have hz1 : (w.alloc (.cells RA.toArray 103)).heap.size = w.heap.size + 1 := by simp
  rw [hz1] at hy0
  have B2 : Below w.heap.size w ((w.alloc (.cells RA.toArray 103)).alloc (.cells RB.toArray 103)) := B1.trans (bA.mono B1.size)
  have g2 := g.below B2 hml
  have hml2 := Nat.lt_of_lt_of_le hml B2.size
  have hrow2 := hrow.below B2
  have x0 := hx1.a0
  have y0 := hy0.a0
  have hbI : (b : Int) < 256 := by omega
  go_enter Tryz.func89, Tryz.ntmps89
  go_wp2_with fail
  refine (hoc _ g2).mono ?_
  rintro e w3 ⟨rfl, hb3⟩
  have B3 := B2.trans (hb3.mono B2.size)
  have bZ : Below w3.heap.size w3 (w3.alloc (.cells #[.int .i64 qs, .int .i64 qd] 65)) := (Below.refl _ _).alloc (Nat.le_refl _) _
  have R4 : Rays (w3.alloc (.cells #[.int .i64 qs, .int .i64 qd] 65)) M w.heap.size (w.heap.size + 1) w3.heap.size W H V bl a b F G qs qd :=
    ⟨(g2.below hb3 hml2).below bZ (Nat.lt_of_lt_of_le hml2 hb3.size), Nat.lt_of_lt_of_le (Nat.lt_of_lt_of_le hml2 hb3.size) bZ.size, (hx1.below hb3).below bZ, (hy0.below hb3).below bZ, World.cell?_alloc_at (w := w3) #[.int .i64 qs, .int .i64 qd] 65 w3.heap.size 0 rfl, World.cell?_alloc_at (w := w3) #[.int .i64 qs, .int .i64 qd] 65 w3.heap.size 1 rfl⟩
  have B4 := B3.trans (bZ.mono B3.size)
  have hrow4 := (hrow2.below hb3).below bZ
  clear hoc hx0 B1 hy0 bA hx1 hz1 B2 g2 hml2 hrow2 x0 y0 hb3 B3 bZ hrow hA hB
  go_wp2_with fail
  generalize w3.alloc (.cells #[.int .i64 qs, .int .i64 qd] 65) = w4 at *
  generalize w3.heap.size = Z at *
  generalize w.heap.size + 1 = Y at *
  obtain ⟨X, hX⟩ : ∃ X, w.heap.size = X := ⟨_, rfl⟩
  rw [hX] at R4
  simp only [hX]
  have HX : Hid (w.heap.size = X) := hX
  clear hX
  have ya := R4.ry.a0
  have xi := R4.rx.i0 b hb
  have xs := R4.rx.s0 b hb
  have xd := R4.rx.d0 b hb
  have z0 := R4.z0
  have z1 := R4.z1
  cases hFb : F (b : Int) with
  | none =>
    rw [hFb] at xi
    have xi : w4.cell? ⟨X, 513 + b, none⟩ = some (.bool false) := xi
    go_quiet (fail)
    go_wp2
    go_ret
    exact ⟨false, rfl, ⟨fun h => (by cases h), fun h => (by have := hFb.symm.trans h.1; cases this)⟩, below_drewN B4 _⟩
  | some c =>
    obtain ⟨s0, d0⟩ := c
    rw [hFb] at xi
    have xi : w4.cell? ⟨X, 513 + b, none⟩ = some (.bool true) := xi
    rw [(lab_some hFb).1] at xs
    rw [(lab_some hFb).2] at xd
    by_cases e1 : s0 = qs
    · by_cases e2 : d0 = qd
      · subst e1 e2
        go_quiet (fail)
        have R5 := R4.below (below_drewN (Below.refl w4.heap.size w4) nq)
        have B5 := below_drewN B4 nq
        have hrow5 := hrow4.below (below_drewN (Below.refl w4.heap.size w4) nq)
        clear R4 B4 hrow4 ya xi xs xd z0 z1
        generalize w4.drewN nq = w5 at *
        go_wp2
        go_loopg [10] l.length (fun gk iv wr => ∃ i : Nat, gk = l.length - i ∧ iv = .int .i64 i ∧ i ≤ l.length ∧ Hid (∀ j, j < i → l.getD j 0 ≠ a → l.getD j 0 ≠ b → ¬ OnR F G s0 d0 (l.getD j 0 : Nat)) ∧ Rays wr M X Y Z W H V bl a b F G s0 d0 ∧ OldRow wr A l.length (fun i => (l.getD i 0 : Nat)) ∧ Below w.heap.size w wr)
        case atStart => exact ⟨0, rfl, rfl, Nat.zero_le _, fun j hj => absurd hj (by omega), R5, hrow5, B5⟩
        case round =>
          obtain ⟨i, hgk, rfl, hi, hno, Rr, hrr, Br⟩ := hrel
          clear R5 B5 hrow5
          by_cases hlt : i < l.length
          · obtain ⟨ba, oa, rfl, hba, hcell⟩ := hrr i hlt
            have hz' := hz i hlt
            obtain ⟨z, hzz⟩ : ∃ z, l.getD i 0 = z := ⟨_, rfl⟩
            have hcell' : wr.cell? ⟨ba, oa + i, none⟩ = some (.int .i64 (z : Int)) := by rw [← hzz]; exact hcell
            rw [hzz] at hz'
            have HZ : Hid (l.getD i 0 = z) := hzz
            clear hzz hcell
            have z3 : (z : Int) < 256 := by omega
            have i1 : (0 : Int) ≤ (i : Int) := by omega
            have i2 : (i : Int) < (l.length : Int) := by omega
            have nxt : (z ≠ a → z ≠ b → ¬ OnR F G s0 d0 (z : Nat)) → Hid (∀ j, j < i + 1 → l.getD j 0 ≠ a → l.getD j 0 ≠ b → ¬ OnR F G s0 d0 (l.getD j 0 : Nat)) := fun h j hj => by
              by_cases e : j = i
              · rw [e, HZ.out]; exact h
              · exact hno.out j (by omega)
            have xa := Rr.rx.a0
            have ya := Rr.ry.a0
            have xi := Rr.rx.i0 z hz'
            have yi := Rr.ry.i0 z hz'
            have bD : Below wr.heap.size wr wr.drew := ⟨rfl, rfl, rfl, Nat.le_refl _, fun _ _ => rfl⟩
            by_cases ea : z = a
            · have HN := nxt (fun h => absurd ea h)
              clear nxt
              subst ea
              go_wp2
              go_quiet (fail)
              go_wp2
              go_roundg (l.length - (i + 1))
              case measure => omega
              case rel => exact ⟨i + 1, rfl, by go_num, by omega, HN, Rr.below (below_drewN (Below.refl _ _) _), hrr.below (below_drewN (Below.refl _ _) _), below_drewN Br _⟩
            · have na : (((z : Nat) : Int) != (a : Int)) = true := bne_iff_ne.2 (by omega)
              by_cases eb : z = b
              · have HN := nxt (fun _ h => absurd eb h)
                clear nxt
                subst eb
                go_wp2
                go_quiet (fail)
                go_wp2
                go_roundg (l.length - (i + 1))
                case measure => omega
                case rel => exact ⟨i + 1, rfl, by go_num, by omega, HN, Rr.below (below_drewN (Below.refl _ _) _), hrr.below (below_drewN (Below.refl _ _) _), below_drewN Br _⟩
              · have nb : (((z : Nat) : Int) != (b : Int)) = true := bne_iff_ne.2 (by omega)
                have na' : ¬ ((z : Int) = (a : Int)) := by omega
                have nb' : ¬ ((z : Int) = (b : Int)) := by omega
                cases hFz : F (z : Int) with
                | none =>
                  rw [hFz] at xi
                  have xi : wr.cell? ⟨X, 513 + z, none⟩ = some (.bool false) := xi
                  have HN := nxt (fun _ _ h => by obtain ⟨_, _, _, _, h1, _⟩ := h; rw [hFz] at h1; cases h1)
                  clear nxt
                  go_wp2
                  go_quiet (fail)
                  go_wp2
                  go_roundg (l.length - (i + 1))
                  case measure => omega
                  case rel => exact ⟨i + 1, rfl, by go_num, by omega, HN, Rr.below (below_drewN (Below.refl _ _) _), hrr.below (below_drewN (Below.refl _ _) _), below_drewN Br _⟩
                | some cz =>
                  obtain ⟨sz, dz⟩ := cz
                  rw [hFz] at xi
                  have xi : wr.cell? ⟨X, 513 + z, none⟩ = some (.bool true) := xi
                  cases hGz : G (z : Int) with
                  | none =>
                    rw [hGz] at yi
                    have yi : wr.cell? ⟨Y, 513 + z, none⟩ = some (.bool false) := yi
                    have HN := nxt (fun _ _ h => by obtain ⟨_, _, _, _, _, h1, _⟩ := h; rw [hGz] at h1; cases h1)
                    clear nxt
                    go_wp2
                    go_quiet (fail)
                    go_wp2
                    go_roundg (l.length - (i + 1))
                    case measure => omega
                    case rel => exact ⟨i + 1, rfl, by go_num, by omega, HN, Rr.below (below_drewN (Below.refl _ _) _), hrr.below (below_drewN (Below.refl _ _) _), below_drewN Br _⟩
                  | some cy =>
                    obtain ⟨tz, uz⟩ := cy
                    rw [hGz] at yi
                    have yi : wr.cell? ⟨Y, 513 + z, none⟩ = some (.bool true) := yi
                    have oA := okA (z : Int)
                    have oB := okB (z : Int)
                    rw [(lab_some hFz).1, (lab_some hFz).2] at oA
                    rw [(lab_some hGz).1, (lab_some hGz).2] at oB
                    have y0 := Rr.rx.s0 z hz'
                    have y1 := Rr.rx.d0 z hz'
                    have y2 := Rr.ry.s0 z hz'
                    have y3 := Rr.ry.d0 z hz'
                    rw [(lab_some hFz).1] at y0
                    rw [(lab_some hFz).2] at y1
                    rw [(lab_some hGz).1] at y2
                    rw [(lab_some hGz).2] at y3
                    have hpl := fun w => plus_any sz dz tz uz w oA oB
                    have CC : Ten wr.drew X Y Z z a b sz dz tz uz s0 d0 := ⟨xa, ya, xi, yi, y0, y1, y2, y3, Rr.z0, Rr.z1⟩
                    have Rr := Rr.below bD
                    have hrr := hrr.below bD
                    have Br := Br.trans (bD.mono Br.size)
                    clear bD y0 y1 y2 y3 oA oB xa ya xi yi
                    by_cases e1 : sz + tz = s0
                    · by_cases e2 : dz + uz = d0
                      · have HO : Hid (OnR F G s0 d0 (z : Nat)) := ⟨sz, dz, tz, uz, hFz, hGz, e1, e2⟩
                        clear nxt
                        go_wp2
                        go_region_held3 (fun w' => w'.cell? ⟨X, 0, none⟩ = some (.int .i64 a) ∧ w'.cell? ⟨Y, 0, none⟩ = some (.int .i64 b) ∧ w'.cell? ⟨X, 513 + z, none⟩ = some (.bool true) ∧ w'.cell? ⟨Y, 513 + z, none⟩ = some (.bool true) ∧ w'.cell? ⟨X, 1 + z * 2, none⟩ = some (.int .i64 sz) ∧ w'.cell? ⟨X, 1 + z * 2 + 1, none⟩ = some (.int .i64 dz) ∧ w'.cell? ⟨Y, 1 + z * 2, none⟩ = some (.int .i64 tz) ∧ w'.cell? ⟨Y, 1 + z * 2 + 1, none⟩ = some (.int .i64 uz) ∧ w'.cell? ⟨Z, 0, none⟩ = some (.int .i64 s0) ∧ w'.cell? ⟨Z, 1, none⟩ = some (.int .i64 d0)) (first | (exact CC)) (first | (go_at_call 64; refine (hpl _).mono ?_; rintro e wx ⟨rfl, hbx⟩; have CC := CC.below hbx; have Rr := Rr.below hbx; have hrr := hrr.below hbx; have Br := Br.trans (hbx.mono Br.size)))
                        all_goals
                          go_wp2
                          go_ret
                          exact ⟨false, rfl, ⟨fun h => (by cases h), fun h => absurd HO.out (by have := h.2 i hlt; rw [HZ.out] at this; exact this ea eb)⟩, Br⟩
                      · have HN := nxt (fun _ _ h => by obtain ⟨_, _, _, _, h1, h2, _, h4⟩ := h; rw [hFz] at h1; rw [hGz] at h2; cases h1; cases h2; exact e2 h4)
                        clear nxt
                        go_wp2
                        go_region_held3 (fun w' => w'.cell? ⟨X, 0, none⟩ = some (.int .i64 a) ∧ w'.cell? ⟨Y, 0, none⟩ = some (.int .i64 b) ∧ w'.cell? ⟨X, 513 + z, none⟩ = some (.bool true) ∧ w'.cell? ⟨Y, 513 + z, none⟩ = some (.bool true) ∧ w'.cell? ⟨X, 1 + z * 2, none⟩ = some (.int .i64 sz) ∧ w'.cell? ⟨X, 1 + z * 2 + 1, none⟩ = some (.int .i64 dz) ∧ w'.cell? ⟨Y, 1 + z * 2, none⟩ = some (.int .i64 tz) ∧ w'.cell? ⟨Y, 1 + z * 2 + 1, none⟩ = some (.int .i64 uz) ∧ w'.cell? ⟨Z, 0, none⟩ = some (.int .i64 s0) ∧ w'.cell? ⟨Z, 1, none⟩ = some (.int .i64 d0)) (first | (exact CC)) (first | (go_at_call 64; refine (hpl _).mono ?_; rintro e wx ⟨rfl, hbx⟩; have CC := CC.below hbx; have Rr := Rr.below hbx; have hrr := hrr.below hbx; have Br := Br.trans (hbx.mono Br.size)))
                        all_goals
                          go_wp2
                          go_roundg (l.length - (i + 1))
                        all_goals first | omega | exact ⟨i + 1, rfl, by go_num, by omega, HN, Rr, hrr, Br⟩
                    · have HN := nxt (fun _ _ h => by obtain ⟨_, _, _, _, h1, h2, h3, _⟩ := h; rw [hFz] at h1; rw [hGz] at h2; cases h1; cases h2; exact e1 h3)
                      clear nxt
                      go_wp2
                      go_region_held3 (fun w' => w'.cell? ⟨X, 0, none⟩ = some (.int .i64 a) ∧ w'.cell? ⟨Y, 0, none⟩ = some (.int .i64 b) ∧ w'.cell? ⟨X, 513 + z, none⟩ = some (.bool true) ∧ w'.cell? ⟨Y, 513 + z, none⟩ = some (.bool true) ∧ w'.cell? ⟨X, 1 + z * 2, none⟩ = some (.int .i64 sz) ∧ w'.cell? ⟨X, 1 + z * 2 + 1, none⟩ = some (.int .i64 dz) ∧ w'.cell? ⟨Y, 1 + z * 2, none⟩ = some (.int .i64 tz) ∧ w'.cell? ⟨Y, 1 + z * 2 + 1, none⟩ = some (.int .i64 uz) ∧ w'.cell? ⟨Z, 0, none⟩ = some (.int .i64 s0) ∧ w'.cell? ⟨Z, 1, none⟩ = some (.int .i64 d0)) (first | (exact CC)) (first | (go_at_call 64; refine (hpl _).mono ?_; rintro e wx ⟨rfl, hbx⟩; have CC := CC.below hbx; have Rr := Rr.below hbx; have hrr := hrr.below hbx; have Br := Br.trans (hbx.mono Br.size)))
                      all_goals
                        go_wp2
                        go_roundg (l.length - (i + 1))
                      all_goals first | omega | exact ⟨i + 1, rfl, by go_num, by omega, HN, Rr, hrr, Br⟩
          · have e : i = l.length := by omega
            subst e
            go_wp2
            go_ret
            exact ⟨true, rfl, ⟨fun _ => ⟨hFb, hno.out⟩, fun _ => rfl⟩, Br⟩
      · subst e1
        go_quiet (fail)
        go_wp2
        go_ret
        exact ⟨false, rfl, ⟨fun h => (by cases h), fun h => (by have := hFb.symm.trans h.1; simp at this; exact absurd this e2)⟩, below_drewN B4 _⟩
    · go_quiet (fail)
      go_wp2
      go_ret
      exact ⟨false, rfl, ⟨fun h => (by cases h), fun h => (by have := hFb.symm.trans h.1; simp at this; exact absurd this.1 e1)⟩, below_drewN B4 _⟩
end Go.Proofs.YtmnpplkjhnoglaaGreatDoor
/-
  Corners: the reference's.
-/
namespace Go.Proofs.YtmnpplkjhnoglaaGreatDoor
open Go.RowKit

theorem drewN_two (w : World) (m k : Nat) : (w.drewN m).drewN k = w.drewN (m + k) := by simp
/-- does a way turn here, round the cell at these differences? -/
def rcB (W H : Int) (bl : Nat → Bool) (x y : Int) (i j : Nat) : Bool := !openB W H bl (x + (2 * (i : Int) - 1)) (y + (2 * (j : Int) - 1)) && (openB W H bl (x + (2 * (i : Int) - 1)) y && openB W H bl x (y + (2 * (j : Int) - 1)))
theorem rcB_cr (W H : Int) (bl : Nat → Bool) (x y : Int) : rcB W H bl x y 1 0 = crB W H bl x y 1 ∧ rcB W H bl x y 1 1 = crB W H bl x y 3 ∧ rcB W H bl x y 0 1 = crB W H bl x y 5 ∧ rcB W H bl x y 0 0 = crB W H bl x y 7 := by
  unfold rcB crB
  refine ⟨?_, ?_, ?_, ?_⟩ <;> exact Bool.and_comm _ _
theorem turn_of_rc {W H x y : Int} {bl : Nat → Bool} {i j : Nat} (hi : i < 2) (hj : j < 2) (h : rcB W H bl x y i j = true) : turnB W H bl x y = true := by
  obtain ⟨h1, h2, h3, h4⟩ := rcB_cr W H bl x y
  have : (i = 0 ∨ i = 1) ∧ (j = 0 ∨ j = 1) := by omega
  obtain ⟨rfl | rfl, rfl | rfl⟩ := this
  · exact turnB_true (j := 3) (by omega) (by rw [← h4]; exact h)
  · exact turnB_true (j := 2) (by omega) (by rw [← h3]; exact h)
  · exact turnB_true (j := 0) (by omega) (by rw [← h1]; exact h)
  · exact turnB_true (j := 1) (by omega) (by rw [← h2]; exact h)
theorem no_turn_of_rc {W H x y : Int} {bl : Nat → Bool} (h : ∀ i j, i < 2 → j < 2 → rcB W H bl x y i j = false) : turnB W H bl x y = false := by
  obtain ⟨h1, h2, h3, h4⟩ := rcB_cr W H bl x y
  refine turnB_false fun j hj => ?_
  have : j = 0 ∨ j = 1 ∨ j = 2 ∨ j = 3 := by omega
  rcases this with rfl | rfl | rfl | rfl
  · rw [← h1]; exact h 1 0 (by omega) (by omega)
  · rw [← h2]; exact h 1 1 (by omega) (by omega)
  · rw [← h3]; exact h 0 1 (by omega) (by omega)
  · rw [← h4]; exact h 0 0 (by omega) (by omega)

set_option maxHeartbeats 1600000 in
set_option maxRecDepth 1000000 in
theorem rcorner' {b : Nat} {W H V c x y : Int} {bl : Nat → Bool} {r : Bool} (w : World) (g : RefAt w b W H V bl) (hx : Int.tmod c W = x) (hy : Int.tdiv c W = y) (hr : (openB W H bl x y && turnB W H bl x y) = r) (x1 : 0 ≤ x) (x2 : x < 16) (y1 : 0 ≤ y) (y2 : y < 16) :
    Calls Tryz.prog 88 #[.pointer (some ⟨b, 0, none⟩), .int .i64 c] w fun e w' => e = .returned (.bool r) ∧ ∃ m, w' = w.drewN m := by
  have c0 := g.c0
  have gw1 := g.w1
  have hne : W ≠ 0 := by omega
  have hwy : IntKind.i64.wrap y = y := by unfold IntKind.wrap; simp [IntKind.bits, IntKind.signed]; omega
  cases hA : openB W H bl x y with
  | false =>
    rw [hA] at hr
    simp only [Bool.false_and] at hr
    subst hr
    go_enter Tryz.func88, Tryz.ntmps88
    go_wp2_with (go_at_call 123; refine (ropen_v (by assumption) _ g).mono ?_; rintro e w' ⟨rfl, m, rfl⟩)
    go_ret
    exact ⟨rfl, _, rfl⟩
  | true =>
    rw [hA] at hr
    simp only [Bool.true_and] at hr
    have HR : Hid (turnB W H bl x y = r) := hr
    clear hr
    go_enter Tryz.func88, Tryz.ntmps88
    go_wp2_with (go_at_call 123; refine (ropen_v (by assumption) _ g).mono ?_; rintro e w' ⟨rfl, m, rfl⟩)
    go_loopg [7] (2 : Nat) (fun gk dv wr => ∃ i : Nat, i ≤ 2 ∧ gk = 2 - i ∧ dv = .int .i64 (2 * (i : Int) - 1) ∧ Hid (∀ i' j', i' < i → j' < 2 → rcB W H bl x y i' j' = false) ∧ ∃ m, wr = w.drewN m)
    case atStart => exact ⟨0, Nat.zero_le _, rfl, rfl, fun i' _ hj => absurd hj (by omega), m, rfl⟩
    case round =>
      obtain ⟨i, hi, hgk, rfl, hall, m, rfl⟩ := hrel
      by_cases hlt : i < 2
      · have hlt2 : 2 * (i : Int) - 1 < 2 := by omega
        go_wp2
        go_loopg [8] (2 : Nat) (fun gk dv wr => ∃ j : Nat, j ≤ 2 ∧ gk = 2 - j ∧ dv = .int .i64 (2 * (j : Int) - 1) ∧ Hid (∀ j', j' < j → rcB W H bl x y i j' = false) ∧ ∃ m, wr = w.drewN m)
        case atStart => exact ⟨0, Nat.zero_le _, rfl, rfl, fun j' hj => absurd hj (by omega), m, rfl⟩
        case round =>
          obtain ⟨j, hj, hgj, rfl, hin, m2, rfl⟩ := hrel
          by_cases hlj : j < 2
          · have hlj2 : 2 * (j : Int) - 1 < 2 := by omega
            have hrc : rcB W H bl x y i j = (!openB W H bl (x + (2 * (i : Int) - 1)) (y + (2 * (j : Int) - 1)) && (openB W H bl (x + (2 * (i : Int) - 1)) y && openB W H bl x (y + (2 * (j : Int) - 1)))) := rfl
            have go_on : rcB W H bl x y i j = false → Hid (∀ j', j' < j + 1 → rcB W H bl x y i j' = false) := fun h j' hj' => by
              by_cases e : j' = j
              · rw [e]; exact h
              · exact hin.out j' (by omega)
            cases hP : openB W H bl (x + (2 * (i : Int) - 1)) (y + (2 * (j : Int) - 1)) with
            | true =>
              rw [hP] at hrc
              have HN := go_on (by rw [hrc]; rfl)
              clear hrc go_on
              cases hQ : openB W H bl (x + (2 * (i : Int) - 1)) y <;> cases hS : openB W H bl x (y + (2 * (j : Int) - 1))
              all_goals
                go_wp2_with (go_at_call 123; refine (ropen_v (by assumption) _ (g.drewN _)).mono ?_; rintro e w' ⟨rfl, m3, rfl⟩)
                go_roundg (2 - (j + 1))
              all_goals first | omega | exact ⟨j + 1, by omega, rfl, by go_num, HN, _, rfl⟩
            | false =>
              cases hQ : openB W H bl (x + (2 * (i : Int) - 1)) y <;> cases hS : openB W H bl x (y + (2 * (j : Int) - 1))
              case true.true =>
                rw [hP, hQ, hS] at hrc
                have HT : Hid (turnB W H bl x y = true) := turn_of_rc hlt hlj hrc
                clear hrc go_on
                go_wp2_with (go_at_call 123; refine (ropen_v (by assumption) _ (g.drewN _)).mono ?_; rintro e w' ⟨rfl, m3, rfl⟩)
                go_ret
                exact ⟨by rw [← HR.out, HT.out]; rfl, _, rfl⟩
              all_goals
                rw [hP, hQ, hS] at hrc
                have HN := go_on (by rw [hrc]; rfl)
                clear hrc go_on
                go_wp2_with (go_at_call 123; refine (ropen_v (by assumption) _ (g.drewN _)).mono ?_; rintro e w' ⟨rfl, m3, rfl⟩)
                go_roundg (2 - (j + 1))
              all_goals first | omega | exact ⟨j + 1, by omega, rfl, by go_num, HN, _, rfl⟩
          · have e : j = 2 := by omega
            subst e
            go_wp2
            go_roundg (2 - (i + 1))
            case measure => omega
            case rel =>
              refine ⟨i + 1, by omega, rfl, by go_num, fun i' j' hi' hj' => ?_, _, rfl⟩
              by_cases e : i' = i
              · rw [e]; exact hin.out j' hj'
              · exact hall.out i' j' (by omega) hj'
      · have e : i = 2 := by omega
        subst e
        have HT : Hid (turnB W H bl x y = false) := no_turn_of_rc hall.out
        go_wp2
        go_ret
        exact ⟨by rw [← HR.out, HT.out]; rfl, _, rfl⟩

theorem rcorner_v {b : Nat} {W H V : Int} {bl : Nat → Bool} {c : Int} {r : Bool} (hc : cornB W H bl c = r) (w : World) (g : RefAt w b W H V bl) (hr : inB W H c = true) :
    Calls Tryz.prog 88 #[.pointer (some ⟨b, 0, none⟩), .int .i64 c] w fun e w' => e = .returned (.bool r) ∧ ∃ m, w' = w.drewN m := by
  obtain ⟨x1, x2, y1, y2⟩ := place_bd g.w1 hr
  have hq : 0 ≤ c ∧ c < W * H := of_decide_eq_true hr
  have gw := g.w2
  have gh := g.h2
  exact rcorner' w g (Int.tmod_eq_emod_of_nonneg hq.1) (Int.tdiv_eq_ediv_of_nonneg hq.1) hc x1 (by omega) y1 (by omega)

set_option maxHeartbeats 1600000 in
set_option maxRecDepth 1000000 in
theorem rcorners_any {b : Nat} {W H V : Int} {bl : Nat → Bool} (w : World) (g : RefAt w b W H V bl) (hb : b < w.heap.size) :
    Calls Tryz.prog 49 #[.pointer (some ⟨b, 0, none⟩)] w fun e w' => ∃ v, e = .returned v ∧
      w'.ownsRow w.heap.size 3 1 v (crs W H bl (W * H).toNat).length (vals (crs W H bl (W * H).toNat)) ∧ Below w.heap.size w w' := by
  obtain ⟨i0, hi, hz0, hz1, hz2⟩ := info_parts Tryz.info3
  obtain ⟨k1, k2⟩ := wh_bd g.w1 g.w2 g.h1 g.h2
  go_enter Tryz.func49, Tryz.ntmps49
  go_wp2
  go_loopw [3, 4] (fun v i wr => ∃ k : Nat, (k : Int) ≤ W * H ∧ i = .int .i64 k ∧ wr.ownsRow w.heap.size 3 1 v (crs W H bl k).length (vals (crs W H bl k)) ∧ Below w.heap.size w wr)
    (fun _ i _ => 1000 - (intOf i).toNat)
  case atStart => exact ⟨0, by omega, rfl, World.ownsRow_nil _ _ _ _, Below.refl _ _⟩
  case round =>
    obtain ⟨k, hk, rfl, hown, hnx⟩ := hrel
    have hl := crs_len W H bl k
    have gr := g.below hnx hb
    have c0 := gr.c0
    have c1 := gr.c1
    have hsz := hnx.size
    by_cases hlt : (k : Int) < W * H
    · have hms := crs_succ W H bl k
      have hin : inB W H (k : Nat) = true := decide_eq_true ⟨by omega, hlt⟩
      cases hM : cornB W H bl (k : Nat) with
      | false =>
        rw [hM] at hms
        have h0 : crs W H bl (k + 1) = crs W H bl k := by simpa using hms
        have HS : Hid (crs W H bl (k + 1) = crs W H bl k) := h0
        clear h0 hms
        go_wp2
        go_quiet (fail)
        go_wp2_with (go_at_call 88; refine (rcorner_v hM _ (gr.drewN _) hin).mono ?_; rintro e w' ⟨rfl, m, rfl⟩)
        go_roundw
        case rel => exact ⟨k + 1, by omega, by go_num, by rw [HS.out]; exact hown, below_drewN hnx _⟩
        case measure => simp [intOf]; omega
      | true =>
        rw [hM] at hms
        have h0 : crs W H bl (k + 1) = crs W H bl k ++ [k] := by simpa using hms
        have HS : Hid (crs W H bl (k + 1) = crs W H bl k ++ [k]) := h0
        clear h0 hms
        go_wp2
        go_quiet (fail)
        go_wp2_with (first | (go_at_call 88; refine (rcorner_v hM _ (gr.drewN _) hin).mono ?_; rintro e w' ⟨rfl, m, hm'⟩; rw [drewN_two] at hm'; subst hm') | (at_builtin; refine wpList_append_own _ rfl _ _ 22 rfl w.heap.size 3 i0 (.int .i64 0) 1 8 Tryz.underlying22 hi hz0 hz1 hz2 rfl (by decide) _ _ _ rfl (World.ownsRow.alloc hown _) ⟨wr.heap.size, 0, none⟩ 1 1 [.int .i64 k] rfl rfl ?c1 ?c2 ?c3 ?c4 ?c5 ?_))
        case c1 =>
          intro j u hj
          match j, hj with
          | 0, hj =>
            simp at hj; subst hj; simp only [Addr.add]
            exact World.cell?_alloc_at (w := wr.drewN (nq + m)) #[.int .i64 k] 3 wr.heap.size 0 rfl
        case c2 => intro u hu; simp at hu; subst hu; rfl
        case c3 => unfold maxLen; omega
        case c4 => omega
        case c5 => simp; omega
        intro v' w1 hown' hgrow _
        have hbase := fun q hq => (hown.lt q hq).1
        have B1 : Below w.heap.size w w1 := ((below_drewN hnx (nq + m)).alloc hsz _).grown hgrow (by simp; omega) hbase
        have O1 : w1.ownsRow w.heap.size 3 1 v' (crs W H bl (k + 1)).length (vals (crs W H bl (k + 1))) := by
          rw [HS.out]
          simpa [vals] using hown'
        clear hown' hgrow hown hnx gr c0 c1
        go_wp2
        go_roundw
        case rel => exact ⟨k + 1, by omega, by go_num, O1, B1⟩
        case measure => simp [intOf]; omega
    · have e : (W * H).toNat = k := by omega
      have HE : Hid ((W * H).toNat = k) := e
      clear e
      go_wp2
      go_quiet (fail)
      go_wp2
      go_ret
      exact ⟨_, rfl, by rw [HE.out]; exact hown, below_drewN hnx _⟩
end Go.Proofs.YtmnpplkjhnoglaaGreatDoor
/-
  The cell at a place; how great a grid is, and how often it changed.
-/
namespace Go.Proofs.YtmnpplkjhnoglaaGreatDoor
open Go.RowKit

end Go.Proofs.YtmnpplkjhnoglaaGreatDoor
