/-
  Texts laid together: ROn, RWayR, RDirect, RCorner.
-/
import Derived.Test.YtfhicijgpdpfpaaDoorP17
import Derived.Deep.LoopGhost
import Derived.Deep.Light
/-
  The reference's 'On': which cells are on.
-/
namespace Go.Proofs.YtfhicijgpdpfpaaDoor
open Go.RowKit

/-- bools in a block -/
structure BoolAt (w : World) (b : Nat) (O : Nat → Bool) : Prop where
  c : ∀ k, k < 256 → w.cell? ⟨b, k, none⟩ = some (.bool (O k))
  f : Free w b
theorem BoolAt.lt {w : World} {b : Nat} {O : Nat → Bool} (h : BoolAt w b O) : b < w.heap.size := World.block_lt_of_cell? w _ (h.c 0 (by decide))
theorem BoolAt.below {w w' : World} {b : Nat} {O : Nat → Bool} (h : BoolAt w b O) (hb : Below w.heap.size w w') : BoolAt w' b O :=
  ⟨fun k hk => (hb.cell (p := ⟨b, k, none⟩) h.lt).trans (h.c k hk), fun o => (hb.frozen (p := ⟨b, o, none⟩) h.lt).trans (h.f o)⟩
theorem BoolAt.new (w : World) : BoolAt (w.alloc (.cells zB 46)) w.heap.size (fun _ => false) :=
  ⟨fun k hk => by rw [World.cell?_alloc_new]; exact zB_at k hk, free_alloc w _ _ _ (Nat.le_refl _)⟩
def updB (O : Nat → Bool) (k : Nat) (v : Bool) : Nat → Bool := fun i => if i = k then v else O i
theorem BoolAt.set {w : World} {b : Nat} {O : Nat → Bool} (h : BoolAt w b O) (k : Nat) (hk : k < 256) (v : Bool) : BoolAt (w.setCell ⟨b, k, none⟩ (.bool v)) b (updB O k v) := by
  refine ⟨fun i hi => ?_, fun o => by rw [World.frozen?_setCell]; exact h.f o⟩
  unfold updB
  by_cases e : i = k
  · subst e
    rw [if_pos rfl]
    exact World.cell?_setCell_same _ _ _ (h.c i hi)
  · rw [if_neg e, World.cell?_setCell_other _ _ _ _ (fun q => e (by cases q; rfl))]
    exact h.c i hi
/-- .. as a list -/
def oL (O : Nat → Bool) : List Value := (List.range 256).map fun k => Value.bool (O k)
theorem oL_len (O : Nat → Bool) : (oL O).length = 256 := by unfold oL; simp
theorem oL_one (O : Nat → Bool) : ∀ v ∈ oL O, v.oneCell' = true := by
  intro v hv
  unfold oL at hv
  rw [List.mem_map] at hv
  obtain ⟨i, _, rfl⟩ := hv
  rfl
theorem oL_at (O : Nat → Bool) (k : Nat) (hk : k < 256) : (oL O)[k]? = some (.bool (O k)) := by
  unfold oL
  rw [List.getElem?_map, List.getElem?_range hk]
  rfl
theorem BoolAt.range {w : World} {b : Nat} {O : Nat → Bool} (h : BoolAt w b O) : w.rangeAt b 0 (oL O) := fun j v hj => by
  have hlt : j < 256 := by
    have := (List.getElem?_eq_some_iff.1 hj).1
    rw [oL_len] at this
    exact this
  rw [oL_at O j hlt] at hj
  rw [Nat.zero_add, h.c j hlt]
  exact hj
theorem boolAt_range {w : World} {b : Nat} {O : Nat → Bool} (h : w.rangeAt b 0 (oL O)) (f : Free w b) : BoolAt w b O :=
  ⟨fun k hk => by have := h k _ (oL_at O k hk); rw [Nat.zero_add] at this; exact this, f⟩

/-- what lies in memory while the cells are gone over -/
structure OnSt (w : World) (M C1 I1 C2 I2 B R : Nat) (W H V : Int) (bl : Nat → Bool) (F G : Int → Option (Int × Int)) (O : Nat → Bool) : Prop where
  ra : RefAt w M W H V bl
  la : LabAt w C1 I1 F
  lb : LabAt w C2 I2 G
  bo : BoolAt w B O
  rt : w.there R 0 256
  rl : R < w.heap.size
  n1 : B ≠ C1
  n2 : B ≠ I1
  n3 : B ≠ C2
  n4 : B ≠ I2
  n5 : B ≠ M
  n6 : B ≠ R
theorem OnSt.ml {w : World} {M C1 I1 C2 I2 B R : Nat} {W H V : Int} {bl : Nat → Bool} {F G : Int → Option (Int × Int)} {O : Nat → Bool} (h : OnSt w M C1 I1 C2 I2 B R W H V bl F G O) : M < w.heap.size := World.block_lt_of_cell? w _ h.ra.c0
theorem OnSt.below {w w' : World} {M C1 I1 C2 I2 B R : Nat} {W H V : Int} {bl : Nat → Bool} {F G : Int → Option (Int × Int)} {O : Nat → Bool} (h : OnSt w M C1 I1 C2 I2 B R W H V bl F G O) {B' : Nat} (hb : Below B' w w') (hB : B' = w.heap.size := by rfl) : OnSt w' M C1 I1 C2 I2 B R W H V bl F G O := by
  subst hB
  exact ⟨h.ra.below hb h.ml, h.la.below hb, h.lb.below hb, h.bo.below hb, there_below h.rt h.rl hb, Nat.lt_of_lt_of_le h.rl hb.size, h.n1, h.n2, h.n3, h.n4, h.n5, h.n6⟩
theorem OnSt.set {w : World} {M C1 I1 C2 I2 B R : Nat} {W H V : Int} {bl : Nat → Bool} {F G : Int → Option (Int × Int)} {O : Nat → Bool} (h : OnSt w M C1 I1 C2 I2 B R W H V bl F G O) (k : Nat) (hk : k < 256) (v : Bool) : OnSt (w.setCell ⟨B, k, none⟩ (.bool v)) M C1 I1 C2 I2 B R W H V bl F G (updB O k v) := by
  have K : Keep (fun i => i = B) w (w.setCell ⟨B, k, none⟩ (.bool v)) := (Keep.refl (fun i => i = B) w).setCell (p := ⟨B, k, none⟩) (fun _ => rfl) _
  have rk : ∀ o, (w.setCell ⟨B, k, none⟩ (.bool v)).cell? ⟨M, o, none⟩ = w.cell? ⟨M, o, none⟩ := fun o => World.cell?_setCell_other _ _ _ _ (fun q => h.n5 (by cases q; rfl))
  refine ⟨⟨h.ra.w1, h.ra.w2, h.ra.h1, h.ra.h2, (rk 0).trans h.ra.c0, (rk 1).trans h.ra.c1, (rk _).trans h.ra.c2, fun i hi => (rk _).trans (h.ra.cs i hi)⟩, h.la.keep K (fun e => h.n1 e.symm) (fun e => h.n2 e.symm), h.lb.keep K (fun e => h.n3 e.symm) (fun e => h.n4 e.symm), h.bo.set k hk v, ?_, Nat.lt_of_lt_of_le h.rl K.size, h.n1, h.n2, h.n3, h.n4, h.n5, h.n6⟩
  intro j hj
  rw [World.frozen?_setCell, World.cell?_setCell_other _ _ _ _ (fun q => h.n6 (by cases q; rfl))]
  exact h.rt j hj

def SixB (w : World) (C1 I1 C2 I2 i : Nat) (s d t u : Int) : Prop :=
  w.cell? ⟨I1, i, none⟩ = some (.bool true) ∧ w.cell? ⟨I2, i, none⟩ = some (.bool true) ∧ w.cell? ⟨C1, i * 2, none⟩ = some (.int .i64 s) ∧ w.cell? ⟨C1, i * 2 + 1, none⟩ = some (.int .i64 d) ∧ w.cell? ⟨C2, i * 2, none⟩ = some (.int .i64 t) ∧ w.cell? ⟨C2, i * 2 + 1, none⟩ = some (.int .i64 u)
theorem SixB.below {w w' : World} {C1 I1 C2 I2 i : Nat} {s d t u : Int} (h : SixB w C1 I1 C2 I2 i s d t u) (hb : Below w.heap.size w w') : SixB w' C1 I1 C2 I2 i s d t u := by
  obtain ⟨h1, h2, h3, h4, h5, h6⟩ := h
  have k : ∀ {a : Addr} {v : Value}, w.cell? a = some v → w'.cell? a = some v := fun {a v} h => (hb.cell (World.block_lt_of_cell? w a h)).trans h
  exact ⟨k h1, k h2, k h3, k h4, k h5, k h6⟩
theorem SixB.set {w : World} {C1 I1 C2 I2 i B j : Nat} {s d t u : Int} (h : SixB w C1 I1 C2 I2 i s d t u) (n1 : B ≠ C1) (n2 : B ≠ I1) (n3 : B ≠ C2) (n4 : B ≠ I2) (v : Value) : SixB (w.setCell ⟨B, j, none⟩ v) C1 I1 C2 I2 i s d t u := by
  obtain ⟨h1, h2, h3, h4, h5, h6⟩ := h
  have k : ∀ {b o : Nat} {x : Value}, B ≠ b → w.cell? ⟨b, o, none⟩ = some x → (w.setCell ⟨B, j, none⟩ v).cell? ⟨b, o, none⟩ = some x := fun {b o x} hn h => (World.cell?_setCell_other _ _ _ _ (fun q => hn (by cases q; rfl))).trans h
  exact ⟨k n2 h1, k n4 h2, k n1 h3, k n1 h4, k n3 h5, k n3 h6⟩

set_option maxHeartbeats 8000000 in
set_option maxRecDepth 1000000 in
theorem ron_any {M : Nat} {W H V : Int} {bl : Nat → Bool} (a b : Nat) (w : World) (g : RefAt w M W H V bl) (hml : M < w.heap.size) (ha : inB W H a = true) (hb : inB W H b = true) :
    Calls Tryd.prog 74 #[.pointer (some ⟨M, 0, none⟩), .int .i64 a, .int .i64 b] w fun e w' => ∃ O : Nat → Bool, e = .returned (.agg (oL O).toArray) ∧ (∀ k, k < 256 → (O k = true ↔ On W H bl a b k)) ∧ Below w.heap.size w w' := by
  have gw1 := g.w1
  have hwh := wh_bd g.w1 g.w2 g.h1 g.h2
  have hsm := oct_small g.w1 g.w2 g.h1 g.h2 ha hb
  have bA : Below w.heap.size w (w.alloc (.cells zB 46)) := (Below.refl _ _).alloc (Nat.le_refl _) _
  have tR := new_there w (List.replicate 256 (Value.bool false)) 46 256 List.length_replicate
  have tR : (w.alloc (.cells zB 46)).there w.heap.size 0 256 := tR
  have hz1 : (w.alloc (.cells zB 46)).heap.size = w.heap.size + 1 := by simp
  have bo := BoolAt.new (w.alloc (.cells zB 46))
  rw [hz1] at bo
  have tR := World.there_alloc tR (.cells zB 46)
  have B2 : Below w.heap.size w ((w.alloc (.cells zB 46)).alloc (.cells zB 46)) := bA.alloc bA.size _
  have hz2 : ((w.alloc (.cells zB 46)).alloc (.cells zB 46)).heap.size = w.heap.size + 1 + 1 := by simp
  have hf1 := rflood_any a _ (g.below B2 hml) (Nat.lt_of_lt_of_le hml B2.size) ha
  go_enter Tryd.func74, Tryd.ntmps74
  go_wp2_with (refine wpList_alloc55 rfl rfl ?_)
  clear bA hz1
  generalize (w.alloc (.cells zB 46)).alloc (.cells zB 46) = w2 at *
  refine hf1.mono ?_
  rintro e w10 ⟨F, rfl, BF, hb10⟩
  have B10 := B2.trans (hb10.mono B2.size)
  have tR := there_below tR (by omega) hb10
  have bo := bo.below hb10
  have hz10 : w.heap.size + 1 + 1 ≤ w10.heap.size := by have := hb10.size; omega
  obtain ⟨t54, t55, LA, hbL⟩ := lab_laid w10 F
  have o1 := costL_one F
  have o2 := isL_one F
  have hcl := costL_len F
  have hil := isL_len F
  have tR := there_below tR (by omega) hbL
  have bo := bo.below hbL
  have B11 := B10.trans (hbL.mono B10.size)
  have hz11 := hbL.size
  clear hf1 hb10 hbL B2 B10 hz2
  generalize costL F = cs at *
  generalize isL F = is' at *
  have hsc := stored hil t55 o2
  go_wp2_with (first | (refine wpList_alloc54 rfl rfl ?_) | (refine wpList_alloc55 rfl rfl ?_) | (refine wpList_store_mid rfl 45 _ _ rfl _ _ cs.toArray rfl rfl (th_of hcl t54) (in_of hcl info54) (all_oneCell_toArray o1) ?_) | (refine wpList_store_mid rfl 46 _ _ rfl _ _ is'.toArray rfl rfl (th_of hil t55) (in_of hil info55) (all_oneCell_toArray o2) ?_))
  clear hsc o1 o2 hcl hil t54 t55
  generalize (((w10.alloc (.cells zC 45)).alloc (.cells zB 46)).setCells w10.heap.size 0 cs).setCells (w10.heap.size + 1) 0 is' = w11 at *
  generalize hC1 : w10.heap.size = C1 at *
  have hf2 := rflood_any b w11 (g.below B11 hml) (Nat.lt_of_lt_of_le hml B11.size) hb
  refine hf2.mono ?_
  rintro e w12 ⟨G, rfl, BG, hb12⟩
  have LA := LA.below hb12
  have tR := there_below tR (by omega) hb12
  have bo := bo.below hb12
  have B12 := B11.trans (hb12.mono B11.size)
  have hz12 := hb12.size
  have hlA := LA.lt
  obtain ⟨t54, t55, LB, hbL⟩ := lab_laid w12 G
  have o1 := costL_one G
  have o2 := isL_one G
  have hcl := costL_len G
  have hil := isL_len G
  have tR := there_below tR (by omega) hbL
  have bo := bo.below hbL
  have LA := LA.below hbL
  have B13 := B12.trans (hbL.mono B12.size)
  have hz13 := hbL.size
  have S13 : OnSt ((((w12.alloc (.cells zC 45)).alloc (.cells zB 46)).setCells w12.heap.size 0 (costL G)).setCells (w12.heap.size + 1) 0 (isL G)) M C1 (C1 + 1) w12.heap.size (w12.heap.size + 1) (w.heap.size + 1) w.heap.size W H V bl F G (fun _ => false) :=
    ⟨g.below B13 hml, LA, LB, bo, tR, Nat.lt_of_lt_of_le (by omega) hz13, by omega, by omega, by omega, by omega, by omega, by omega⟩
  clear hf2 hb12 hbL B11 B12 LA LB tR bo hz10 hz11 hz12 hz13 hlA hC1
  generalize costL G = cs2 at *
  generalize isL G = is2 at *
  have hsc := stored hil t55 o2
  go_wp2_with (first | (refine wpList_alloc54 rfl rfl ?_) | (refine wpList_alloc55 rfl rfl ?_) | (refine wpList_store_mid rfl 45 _ _ rfl _ _ cs2.toArray rfl rfl (th_of hcl t54) (in_of hcl info54) (all_oneCell_toArray o1) ?_) | (refine wpList_store_mid rfl 46 _ _ rfl _ _ is2.toArray rfl rfl (th_of hil t55) (in_of hil info55) (all_oneCell_toArray o2) ?_))
  clear hsc o1 o2 hcl hil t54 t55
  generalize (((w12.alloc (.cells zC 45)).alloc (.cells zB 46)).setCells w12.heap.size 0 cs2).setCells (w12.heap.size + 1) 0 is2 = w13 at *
  generalize w12.heap.size = C2 at *
  generalize C2 + 1 = I2 at *
  generalize C1 + 1 = I1 at *
  generalize hNB : w.heap.size + 1 = NB at *
  have hon := on_iff (a := (a : Int)) (b := (b : Int)) gw1 (by omega) (by omega) BF BG
  have hoc : ∀ w' : World, RefAt w' M W H V bl → Calls Tryd.prog 71 #[.pointer (some ⟨M, 0, none⟩), .int .i64 a, .int .i64 b] w' fun e w'' => e = .returned (.agg #[.int .i64 (octS W a b), .int .i64 (octD W a b)]) ∧ Below w'.heap.size w' w'' := fun w' g' => roct_any (a : Int) b w' g' ha hb
  have okA := lab_ok BF
  have okB := lab_ok BG
  clear BF BG hsm
  generalize octS W a b = qs at *
  generalize octD W a b = qd at *
  obtain ⟨R, hR⟩ : ∃ R, w.heap.size = R := ⟨_, rfl⟩
  rw [hR] at S13
  simp only [hR]
  have HR : Hid (w.heap.size = R) := hR
  have hle : w.heap.size ≤ NB := by omega
  clear hNB hR
  go_loopg [12] 300 (fun gk iv wr => ∃ (i : Nat) (O : Nat → Bool), gk = 300 - i ∧ (i : Int) ≤ W * H ∧ iv = .int .i64 i ∧ Hid (∀ k : Nat, O k = true ↔ k < i ∧ On W H bl a b k) ∧ OnSt wr M C1 I1 C2 I2 NB R W H V bl F G O ∧ Below w.heap.size w wr)
  case atStart => exact ⟨0, _, rfl, by omega, rfl, fun k => ⟨fun h => (by cases h), fun h => absurd h.1 (by omega)⟩, S13, B13⟩
  case round =>
    obtain ⟨i, O, hgk, hi, rfl, hO, S, B⟩ := hrel
    clear S13 B13
    have c0 := S.ra.c0
    have c1 := S.ra.c1
    by_cases hlt : (i : Int) < W * H
    · go_wp2
      go_quiet (fail)
      have S1 := S.below (below_drewN (Below.refl wr.heap.size wr) nq)
      have B1 := below_drewN B nq
      clear S B c0 c1
      generalize wr.drewN nq = w4 at *
      go_wp2
      have i6 : i < 256 := by omega
      have i5 : (i : Int) < 256 := by omega
      have bD : Below w4.heap.size w4 w4.drew := ⟨rfl, rfl, rfl, Nat.le_refl _, fun _ _ => rfl⟩
      have S2 := S1.below bD
      have B2 := B1.trans (bD.mono B1.size)
      have x1 := S2.la.i0 i i6
      have x2 := S2.lb.i0 i i6
      have b0 := S2.bo.c i i6
      have bf := S2.bo.f i
      have nxt : ∀ v : Bool, (v = true ↔ On W H bl a b i) → Hid (∀ k : Nat, updB O i v k = true ↔ k < i + 1 ∧ On W H bl a b k) := fun v hv k => by
        unfold updB
        by_cases e : k = i
        · rw [if_pos e, hv, e]
          exact ⟨fun h => ⟨by omega, h⟩, fun h => h.2⟩
        · rw [if_neg e, hO.out k]
          exact ⟨fun h => ⟨by omega, h.2⟩, fun h => ⟨by omega, h.2⟩⟩
      clear S1 B1 bD
      cases hFi : F (i : Int) with
      | none =>
        rw [hFi] at x1
        have x1 : w4.drew.cell? ⟨I1, i, none⟩ = some (.bool false) := x1
        have HO' := nxt false ⟨fun h => (by cases h), fun h => (by obtain ⟨_, _, _, _, h1, _⟩ := (hon i).1 h; rw [hFi] at h1; cases h1)⟩
        have S3 := S2.set i i6 false
        have B3 : Below w.heap.size w (w4.drew.setCell ⟨NB, i, none⟩ (.bool false)) := B2.setCell (p := ⟨NB, i, none⟩) hle _
        clear nxt S2 B2 x2
        go_region
        all_goals
          go_wp2
        go_roundg (300 - (i + 1))
        case measure => omega
        case rel => exact ⟨i + 1, _, rfl, by omega, by go_num, HO', S3, B3⟩
      | some c =>
        obtain ⟨s, d⟩ := c
        rw [hFi] at x1
        have x1 : w4.drew.cell? ⟨I1, i, none⟩ = some (.bool true) := x1
        cases hGi : G (i : Int) with
        | none =>
          rw [hGi] at x2
          have x2 : w4.drew.cell? ⟨I2, i, none⟩ = some (.bool false) := x2
          have HO' := nxt false ⟨fun h => (by cases h), fun h => (by obtain ⟨_, _, _, _, _, h1, _⟩ := (hon i).1 h; rw [hGi] at h1; cases h1)⟩
          have S3 := S2.set i i6 false
          have B3 : Below w.heap.size w (w4.drew.setCell ⟨NB, i, none⟩ (.bool false)) := B2.setCell (p := ⟨NB, i, none⟩) hle _
          clear nxt S2 B2
          go_region
          all_goals
            go_wp2
          go_roundg (300 - (i + 1))
          case measure => omega
          case rel => exact ⟨i + 1, _, rfl, by omega, by go_num, HO', S3, B3⟩
        | some c' =>
          obtain ⟨t, u⟩ := c'
          rw [hGi] at x2
          have x2 : w4.drew.cell? ⟨I2, i, none⟩ = some (.bool true) := x2
          have y0 := S2.la.c0 i i6
          have y1 := S2.la.c1 i i6
          have y2 := S2.lb.c0 i i6
          have y3 := S2.lb.c1 i i6
          rw [(lab_some hFi).1] at y0
          rw [(lab_some hFi).2] at y1
          rw [(lab_some hGi).1] at y2
          rw [(lab_some hGi).2] at y3
          have oA := okA (i : Int)
          have oB := okB (i : Int)
          rw [(lab_some hFi).1, (lab_some hFi).2] at oA
          rw [(lab_some hGi).1, (lab_some hGi).2] at oB
          have hpl := fun w => plus_any s d t u w oA oB
          have CC : SixB w4.drew C1 I1 C2 I2 i s d t u := ⟨x1, x2, y0, y1, y2, y3⟩
          have n1 := S2.n1
          have n2 := S2.n2
          have n3 := S2.n3
          have n4 := S2.n4
          have hlB := S2.bo.lt
          clear x1 x2 y0 y1 y2 y3 oA oB
          by_cases e1 : s + t = qs
          · by_cases e2 : d + u = qd
            · have HO' := nxt true ⟨fun _ => (hon i).2 ⟨s, d, t, u, hFi, hGi, e1, e2⟩, fun _ => rfl⟩
              clear nxt
              go_region_held3 (fun w' => w'.cell? ⟨I1, i, none⟩ = some (.bool true) ∧ w'.cell? ⟨I2, i, none⟩ = some (.bool true) ∧ w'.cell? ⟨C1, i * 2, none⟩ = some (.int .i64 s) ∧ w'.cell? ⟨C1, i * 2 + 1, none⟩ = some (.int .i64 d) ∧ w'.cell? ⟨C2, i * 2, none⟩ = some (.int .i64 t) ∧ w'.cell? ⟨C2, i * 2 + 1, none⟩ = some (.int .i64 u)) (first | (exact CC) | (exact CC.set n1 n2 n3 n4 _)) (first | (go_at_call 42; refine (hpl _).mono ?_; rintro e wx ⟨rfl, hbx⟩; have CC := CC.below hbx; have S2 := S2.below hbx; have B2 := B2.trans (hbx.mono B2.size); have b0 := (hbx.cell (p := ⟨NB, i, none⟩) hlB).trans b0; have bf := (hbx.frozen (p := ⟨NB, i, none⟩) hlB).trans bf; have hlB := Nat.lt_of_lt_of_le hlB hbx.size) | (go_at_call 71; refine (hoc _ S2.ra).mono ?_; rintro e wy ⟨rfl, hbx⟩; have CC := CC.below hbx; have S2 := S2.below hbx; have B2 := B2.trans (hbx.mono B2.size); have b0 := (hbx.cell (p := ⟨NB, i, none⟩) hlB).trans b0; have bf := (hbx.frozen (p := ⟨NB, i, none⟩) hlB).trans bf; have hlB := Nat.lt_of_lt_of_le hlB hbx.size))
              all_goals
                go_wp2
                go_roundg (300 - (i + 1))
              all_goals first | omega | exact ⟨i + 1, _, rfl, by omega, by go_num, HO', S2.set i i6 true, B2.setCell (p := ⟨NB, i, none⟩) hle _⟩
            · have HO' := nxt false ⟨fun h => (by cases h), fun h => (by obtain ⟨_, _, _, _, h1, h2, _, h4⟩ := (hon i).1 h; rw [hFi] at h1; rw [hGi] at h2; cases h1; cases h2; exact absurd h4 e2)⟩
              clear nxt
              go_region_held3 (fun w' => w'.cell? ⟨I1, i, none⟩ = some (.bool true) ∧ w'.cell? ⟨I2, i, none⟩ = some (.bool true) ∧ w'.cell? ⟨C1, i * 2, none⟩ = some (.int .i64 s) ∧ w'.cell? ⟨C1, i * 2 + 1, none⟩ = some (.int .i64 d) ∧ w'.cell? ⟨C2, i * 2, none⟩ = some (.int .i64 t) ∧ w'.cell? ⟨C2, i * 2 + 1, none⟩ = some (.int .i64 u)) (first | (exact CC) | (exact CC.set n1 n2 n3 n4 _)) (first | (go_at_call 42; refine (hpl _).mono ?_; rintro e wx ⟨rfl, hbx⟩; have CC := CC.below hbx; have S2 := S2.below hbx; have B2 := B2.trans (hbx.mono B2.size); have b0 := (hbx.cell (p := ⟨NB, i, none⟩) hlB).trans b0; have bf := (hbx.frozen (p := ⟨NB, i, none⟩) hlB).trans bf; have hlB := Nat.lt_of_lt_of_le hlB hbx.size) | (go_at_call 71; refine (hoc _ S2.ra).mono ?_; rintro e wy ⟨rfl, hbx⟩; have CC := CC.below hbx; have S2 := S2.below hbx; have B2 := B2.trans (hbx.mono B2.size); have b0 := (hbx.cell (p := ⟨NB, i, none⟩) hlB).trans b0; have bf := (hbx.frozen (p := ⟨NB, i, none⟩) hlB).trans bf; have hlB := Nat.lt_of_lt_of_le hlB hbx.size))
              all_goals
                go_wp2
                go_roundg (300 - (i + 1))
              all_goals first | omega | exact ⟨i + 1, _, rfl, by omega, by go_num, HO', S2.set i i6 false, B2.setCell (p := ⟨NB, i, none⟩) hle _⟩
          · have HO' := nxt false ⟨fun h => (by cases h), fun h => (by obtain ⟨_, _, _, _, h1, h2, h3, _⟩ := (hon i).1 h; rw [hFi] at h1; rw [hGi] at h2; cases h1; cases h2; exact absurd h3 e1)⟩
            clear nxt
            go_region_held3 (fun w' => w'.cell? ⟨I1, i, none⟩ = some (.bool true) ∧ w'.cell? ⟨I2, i, none⟩ = some (.bool true) ∧ w'.cell? ⟨C1, i * 2, none⟩ = some (.int .i64 s) ∧ w'.cell? ⟨C1, i * 2 + 1, none⟩ = some (.int .i64 d) ∧ w'.cell? ⟨C2, i * 2, none⟩ = some (.int .i64 t) ∧ w'.cell? ⟨C2, i * 2 + 1, none⟩ = some (.int .i64 u)) (first | (exact CC) | (exact CC.set n1 n2 n3 n4 _)) (first | (go_at_call 42; refine (hpl _).mono ?_; rintro e wx ⟨rfl, hbx⟩; have CC := CC.below hbx; have S2 := S2.below hbx; have B2 := B2.trans (hbx.mono B2.size); have b0 := (hbx.cell (p := ⟨NB, i, none⟩) hlB).trans b0; have bf := (hbx.frozen (p := ⟨NB, i, none⟩) hlB).trans bf; have hlB := Nat.lt_of_lt_of_le hlB hbx.size) | (go_at_call 71; refine (hoc _ S2.ra).mono ?_; rintro e wy ⟨rfl, hbx⟩; have CC := CC.below hbx; have S2 := S2.below hbx; have B2 := B2.trans (hbx.mono B2.size); have b0 := (hbx.cell (p := ⟨NB, i, none⟩) hlB).trans b0; have bf := (hbx.frozen (p := ⟨NB, i, none⟩) hlB).trans bf; have hlB := Nat.lt_of_lt_of_le hlB hbx.size))
            all_goals
              go_wp2
              go_roundg (300 - (i + 1))
            all_goals first | omega | exact ⟨i + 1, _, rfl, by omega, by go_num, HO', S2.set i i6 false, B2.setCell (p := ⟨NB, i, none⟩) hle _⟩
    · have e : Hid (∀ k, k < 256 → (O k = true ↔ On W H bl a b k)) := fun k _ => by
        rw [hO.out k]
        refine ⟨fun h => h.2, fun h => ⟨?_, h⟩⟩
        have : 0 ≤ (k : Int) ∧ (k : Int) < W * H := of_decide_eq_true (h.1.in gw1 ha)
        omega
      go_wp2
      go_quiet (fail)
      have S1 := S.below (below_drewN (Below.refl wr.heap.size wr) nq)
      have B1 := below_drewN B nq
      clear S B c0 c1
      generalize wr.drewN nq = w4 at *
      have rB := S1.bo.range
      have oO := oL_one O
      have lO := oL_len O
      have tR := S1.rt
      have hst := stored lO tR oO
      have rF := World.rangeAt_setCells_same w4 R 0 (oL O) (by rw [lO]; exact tR)
      have B2 : Below w.heap.size w (w4.setCells R 0 (oL O)) := below_setCells _ (by rw [HR.out]; exact Nat.le_refl _) _ _ B1
      generalize hOL : oL O = OL at *
      have HOL : Hid (oL O = OL) := hOL
      clear hOL S1
      go_wp2_with (refine wpList_load_mid rfl 46 _ rfl NB 0 rfl OL _ rB und55 rfl (by rw [info55, lO]) ?_)
      refine bodyPost_ret (v := .agg OL.toArray) (results_one Tryd.results74 rfl (run_loadVar_mid _ R 0 46 OL _ rF und55 rfl (by rw [info55, lO]))) rfl ⟨O, by rw [HOL.out], e.out, B2⟩
end Go.Proofs.YtfhicijgpdpfpaaDoor
/-
  The reference's way.
-/
namespace Go.Proofs.YtfhicijgpdpfpaaDoor
open Go.RowKit

section
variable {W H : Int} {bl : Nat → Bool} {a b p : Int} {dl : List Nat}
/-- the next one, when some directions have been looked at -/
def NX (W H : Int) (bl : Nat → Bool) (a b p : Int) (dl : List Nat) (j : Nat) (nv : Int) : Prop :=
  (nv = -1 ∧ ∀ i, i < j → ∀ r, ¬ Cand W H bl a b p (dl.getD i 0) r) ∨ (∃ i, i < j ∧ ∃ r : Nat, nv = r ∧ Cand W H bl a b p (dl.getD i 0) r ∧ ((dl.getD i 0) % 2 = 0 → ∀ i', i' < j → (dl.getD i' 0) % 2 = 1 → ∀ q, ¬ Cand W H bl a b p (dl.getD i' 0) q))
theorem NX.start : NX W H bl a b p dl 0 (-1) := Or.inl ⟨rfl, fun i hi => absurd hi (by omega)⟩
theorem lt_cases {i j : Nat} (h : i < j + 1) : i < j ∨ i = j := by omega
theorem NX.skip {j : Nat} {nv : Int} (h : NX W H bl a b p dl j nv) (hn : ∀ r, ¬ Cand W H bl a b p (dl.getD j 0) r) : NX W H bl a b p dl (j + 1) nv := by
  rcases h with ⟨h1, h2⟩ | ⟨i, hi, r, h1, h2, h3⟩
  · refine Or.inl ⟨h1, fun i hi r => ?_⟩
    rcases lt_cases hi with h | rfl
    · exact h2 i h r
    · exact hn r
  · refine Or.inr ⟨i, by omega, r, h1, h2, fun e i' hi' ho q => ?_⟩
    rcases lt_cases hi' with h | rfl
    · exact h3 e i' h ho q
    · exact hn q
theorem NX.take {j : Nat} {nv : Int} {r : Nat} (h : NX W H bl a b p dl j nv) (hc : Cand W H bl a b p (dl.getD j 0) r) (ho : nv < 0 ∨ (dl.getD j 0) % 2 = 1) : NX W H bl a b p dl (j + 1) r := by
  refine Or.inr ⟨j, by omega, r, rfl, hc, fun e i' hi' ho' q => ?_⟩
  rcases lt_cases hi' with hlt | rfl
  · rcases h with ⟨_, h2⟩ | ⟨i, hi, r', h1, _, _⟩
    · exact h2 i' hlt q
    · rcases ho with ho | ho
      · omega
      · omega
  · omega
theorem NX.keep {j : Nat} {nv : Int} (h : NX W H bl a b p dl j nv) (h0 : ¬ nv < 0) (he : (dl.getD j 0) % 2 = 0) : NX W H bl a b p dl (j + 1) nv := by
  rcases h with ⟨h1, _⟩ | ⟨i, hi, r, h1, h2, h3⟩
  · omega
  · refine Or.inr ⟨i, by omega, r, h1, h2, fun e i' hi' ho q => ?_⟩
    rcases lt_cases hi' with h | rfl
    · exact h3 e i' h ho q
    · omega
theorem NX.done {nv : Int} (w1 : 1 ≤ W) (hS : octS W a b ≤ 1000) (hD : octD W a b ≤ 1000) (hl : mvs W H bl (p % W) (p / W) 8 = dl) (hon : On W H bl a b p) (hne : p ≠ b) (h : NX W H bl a b p dl dl.length nv) : ∃ k, ∃ r : Nat, nv = r ∧ Chosen W H bl a b p k r := by
  have hall : ∀ k q, Cand W H bl a b p k q → ∃ i, i < dl.length ∧ dl.getD i 0 = k := fun k q hc => by
    have hm : k ∈ dl := by
      rw [← hl]
      unfold mvs
      exact List.mem_filter.2 ⟨List.mem_range.2 hc.1.1, hc.1.2.2.1⟩
    obtain ⟨i, hi, h⟩ := List.getElem_of_mem hm
    exact ⟨i, hi, by rw [getD_at _ _ hi]; exact h⟩
  rcases h with ⟨_, h2⟩ | ⟨i, hi, r, h1, h2, h3⟩
  · exfalso
    obtain ⟨k, r, hk⟩ := Chosen.ex w1 hS hD hon hne
    obtain ⟨i, hi, e⟩ := hall k r hk.1
    exact h2 i hi r (by rw [e]; exact hk.1)
  · refine ⟨_, r, h1, h2, fun e j q hj hc => ?_⟩
    obtain ⟨i', hi', e'⟩ := hall j q hc
    exact h3 e i' hi' (by rw [e']; exact hj) q (by rw [e']; exact hc)
end

/-- what lies in memory while a way is laid -/
structure WyS (w : World) (M OB : Nat) (W H V : Int) (bl : Nat → Bool) (O : Nat → Bool) : Prop where
  ra : RefAt w M W H V bl
  bo : BoolAt w OB O
theorem WyS.ml {w : World} {M OB : Nat} {W H V : Int} {bl : Nat → Bool} {O : Nat → Bool} (h : WyS w M OB W H V bl O) : M < w.heap.size := World.block_lt_of_cell? w _ h.ra.c0
theorem WyS.below {w w' : World} {M OB : Nat} {W H V : Int} {bl : Nat → Bool} {O : Nat → Bool} (h : WyS w M OB W H V bl O) {B : Nat} (hb : Below B w w') (hB : B = w.heap.size := by rfl) : WyS w' M OB W H V bl O := by
  subst hB
  exact ⟨h.ra.below hb h.ml, h.bo.below hb⟩
theorem WyS.grown {w w' : World} {M OB : Nat} {W H V : Int} {bl : Nat → Bool} {O : Nat → Bool} {row : Option Nat} (h : WyS w M OB W H V bl O) (hg : w.grownBy w' row) (h1 : some M ≠ row) (h2 : some OB ≠ row) : WyS w' M OB W H V bl O := by
  have km : ∀ o, w'.cell? ⟨M, o, none⟩ = w.cell? ⟨M, o, none⟩ := fun o => World.cell?_of_block (w := w) (hg.block M h.ml h1)
  have ko : ∀ o, w'.cell? ⟨OB, o, none⟩ = w.cell? ⟨OB, o, none⟩ := fun o => World.cell?_of_block (w := w) (hg.block OB h.bo.lt h2)
  have kf : ∀ o, w'.frozen? ⟨OB, o, none⟩ = w.frozen? ⟨OB, o, none⟩ := fun o => World.frozen?_of_block (w := w) (hg.block OB h.bo.lt h2)
  exact ⟨⟨h.ra.w1, h.ra.w2, h.ra.h1, h.ra.h2, (km 0).trans h.ra.c0, (km 1).trans h.ra.c1, (km _).trans h.ra.c2, fun i hi => (km _).trans (h.ra.cs i hi)⟩, ⟨fun k hk => (ko k).trans (h.bo.c k hk), fun o => (kf o).trans (h.bo.f o)⟩⟩

def FiveC (w : World) (OB SB LB r : Nat) (s d x y : Int) : Prop :=
  w.cell? ⟨OB, r, none⟩ = some (.bool true) ∧ w.cell? ⟨SB, 0, none⟩ = some (.int .i64 s) ∧ w.cell? ⟨SB, 1, none⟩ = some (.int .i64 d) ∧ w.cell? ⟨LB, 0, none⟩ = some (.int .i64 x) ∧ w.cell? ⟨LB, 1, none⟩ = some (.int .i64 y)
theorem FiveC.below {w w' : World} {OB SB LB r : Nat} {s d x y : Int} (h : FiveC w OB SB LB r s d x y) (hb : Below w.heap.size w w') : FiveC w' OB SB LB r s d x y := by
  obtain ⟨h1, h2, h3, h4, h5⟩ := h
  have k : ∀ {a : Addr} {v : Value}, w.cell? a = some v → w'.cell? a = some v := fun {a v} h => (hb.cell (World.block_lt_of_cell? w a h)).trans h
  exact ⟨k h1, k h2, k h3, k h4, k h5⟩

set_option maxHeartbeats 3000000 in
set_option maxRecDepth 1000000 in
theorem rrway_ok {M : Nat} {W H V : Int} {bl : Nat → Bool} (a b : Nat) (w : World) (g : RefAt w M W H V bl) (hml : M < w.heap.size) (ha : inB W H a = true) (hb : inB W H b = true) (hyes : ∃ z, On W H bl a b z) :
    Calls Tryd.prog 41 #[.pointer (some ⟨M, 0, none⟩), .int .i64 a, .int .i64 b] w fun e w' => ∃ v l, e = .returned v ∧ w'.ownsRow w.heap.size 3 1 v (a :: l).length (vals (a :: l)) ∧ Chn (WSt W H bl a b) a (ints l) b ∧ Below w.heap.size w w' := by
  obtain ⟨i0, hi, hz0, hz1, hz2⟩ := info_parts Tryd.info3
  have gw1 := g.w1
  have hwh := wh_bd g.w1 g.w2 g.h1 g.h2
  have hsm := oct_small g.w1 g.w2 g.h1 g.h2 ha hb
  have hoS : octS W a b ≤ 1000 := by omega
  have hoD : octD W a b ≤ 1000 := by omega
  obtain ⟨z, hz⟩ := hyes
  have hona := (hz.ends gw1 hoS hoD).1
  have hro := ron_any a b w g hml ha hb
  go_enter Tryd.func41, Tryd.ntmps41
  go_wp2_with fail
  refine hro.mono ?_
  rintro e w1 ⟨O, rfl, hO, hb1⟩
  have tO := new_there w1 (List.replicate 256 (Value.bool false)) 46 256 List.length_replicate
  have tO : (w1.alloc (.cells zB 46)).there w1.heap.size 0 256 := tO
  have oO := oL_one O
  have lO := oL_len O
  have hst := stored lO tO oO
  have rO := World.rangeAt_setCells_same (w1.alloc (.cells zB 46)) w1.heap.size 0 (oL O) (by rw [lO]; exact tO)
  have fO : Free ((w1.alloc (.cells zB 46)).setCells w1.heap.size 0 (oL O)) w1.heap.size := fun o => by rw [World.frozen?_setCells]; exact free_alloc w1 _ _ _ (Nat.le_refl _) o
  have bo := boolAt_range rO fO
  have bb : Below w1.heap.size w1 ((w1.alloc (.cells zB 46)).setCells w1.heap.size 0 (oL O)) := below_setCells _ (Nat.le_refl _) _ _ ((Below.refl _ _).alloc (Nat.le_refl _) _)
  have B2 := hb1.trans (bb.mono hb1.size)
  have S2 : WyS ((w1.alloc (.cells zB 46)).setCells w1.heap.size 0 (oL O)) M w1.heap.size W H V bl O := ⟨g.below B2 hml, bo⟩
  clear hro rO fO bo bb hb1 tO
  generalize oL O = OL at *
  go_wp2_with (refine wpList_alloc55 rfl rfl ?_)
  clear hst
  generalize (w1.alloc (.cells zB 46)).setCells w1.heap.size 0 OL = w2 at *
  generalize w1.heap.size = OB at *
  have hOl := S2.bo.lt
  have hMl := S2.ml
  have hO2 : (w2.alloc (.cells #[.int .i64 a] 3)).ownsRow w2.heap.size 3 1 (.slice (some ⟨w2.heap.size, 0, none⟩) 1 1) [a].length (vals [a]) := World.ownsRow_lit w2 #[.int .i64 a] 1 (Nat.le_refl _) (by unfold maxLen; omega) rfl
  have bA : Below w2.heap.size w2 (w2.alloc (.cells #[.int .i64 a] 3)) := (Below.refl _ _).alloc (Nat.le_refl _) _
  have S3 := S2.below bA
  have B3 := B2.trans (bA.mono B2.size)
  have z3 := bA.size
  have z2 := B2.size
  have hn0 := octN_nonneg W a b
  have hn1 : octN W a b ≤ 32 := by unfold octN; omega
  clear S2 B2 bA hz
  generalize w2.alloc (.cells #[.int .i64 a] 3) = w3 at *
  generalize w2.heap.size = N2 at *
  go_loopg [8, 9] (octN W a b).toNat (fun gk v av wr => ∃ (p : Nat) (l : List Nat), gk = (octN W p b).toNat ∧ av = .int .i64 p ∧ (l.length : Int) + octN W p b = octN W a b ∧ wr.ownsRow N2 3 1 v (a :: l).length (vals (a :: l)) ∧ Hid (Chn (WSt W H bl a b) a (ints l) p) ∧ On W H bl a b p ∧ inB W H p = true ∧ WyS wr M OB W H V bl O ∧ N2 ≤ wr.heap.size ∧ Below w.heap.size w wr)
  case atStart => exact ⟨a, [], rfl, rfl, by simp, hO2, rfl, hona, ha, S3, z3, B3⟩
  case round =>
    obtain ⟨p, l, hgk, rfl, hln, hown, hch, hon, hpin, S, hzN, B⟩ := hrel
    clear S3 B3 hO2 z3
    have hpn := octN_nonneg W p b
    by_cases hpb : p = b
    · subst hpb
      go_wp2
      go_ret
      exact ⟨_, l, rfl, own_base hown z2, hch.out, B⟩
    · have npb : (((p : Nat) : Int) != (b : Int)) = true := bne_iff_ne.2 (by omega)
      have npb' : ¬ ((p : Int) = (b : Int)) := by omega
      have hqp : 0 ≤ (p : Int) ∧ (p : Int) < W * H := of_decide_eq_true hpin
      obtain ⟨dl, hdl⟩ := dirsOf (H := H) bl (p : Int) gw1
      have hmv := rmoves_v hdl wr S.ra hpin S.ml
      have hdlen := hdl.len
      have hsz := B.size
      go_wp2_with fail
      refine hmv.mono ?_
      rintro e w4 ⟨A4, cap4, rfl, hrow4, hb4⟩
      have S4 := S.below hb4
      have B4 := B.trans (hb4.mono B.size)
      have O4 := own_below hown hb4
      have hz4 := hb4.size
      have hoc := roct_any (p : Int) b w4 S4.ra hpin hb
      clear hmv S B hown hb4
      go_wp2_with fail
      refine hoc.mono ?_
      rintro e w5 ⟨rfl, hb5⟩
      have S5 := S4.below hb5
      have B5 := B4.trans (hb5.mono B4.size)
      have O5 := own_below O4 hb5
      have hrow5 := hrow4.below hb5
      have hz5 := hb5.size
      have bA : Below w5.heap.size w5 (w5.alloc (.cells #[.int .i64 (octS W p b), .int .i64 (octD W p b)] 31)) := (Below.refl _ _).alloc (Nat.le_refl _) _
      have S6 := S5.below bA
      have B6 := B5.trans (bA.mono B5.size)
      have O6 := own_below O5 bA
      have hrow6 := hrow5.below bA
      have L0 : (w5.alloc (.cells #[.int .i64 (octS W p b), .int .i64 (octD W p b)] 31)).cell? ⟨w5.heap.size, 0, none⟩ = some (.int .i64 (octS W p b)) := World.cell?_alloc_at (w := w5) #[.int .i64 (octS W p b), .int .i64 (octD W p b)] 31 w5.heap.size 0 rfl
      have L1 : (w5.alloc (.cells #[.int .i64 (octS W p b), .int .i64 (octD W p b)] 31)).cell? ⟨w5.heap.size, 1, none⟩ = some (.int .i64 (octD W p b)) := World.cell?_alloc_at (w := w5) #[.int .i64 (octS W p b), .int .i64 (octD W p b)] 31 w5.heap.size 1 rfl
      have hz6 := bA.size
      have hgood : Hid (∀ d r, Edge W H bl p d r → (Good ((p : Int) % W) ((p : Int) / W) ((b : Int) % W) ((b : Int) / W) d ↔ octS W r b + stS d = octS W p b ∧ octD W r b + stD d = octD W p b)) := fun d r e => good_iff gw1 e
      clear hoc S4 B4 O4 hrow4 hb5 S5 B5 O5 hrow5 bA
      go_wp2_with fail
      generalize w5.alloc (.cells #[.int .i64 (octS W p b), .int .i64 (octD W p b)] 31) = w6 at *
      generalize w5.heap.size = LB at *
      generalize octS W p b = qs at *
      generalize octD W p b = qd at *
      go_loopg [10, 13] dl.length (fun gj nx kv wr => ∃ (j : Nat) (nv : Int), gj = dl.length - j ∧ kv = .int .i64 j ∧ nx = .int .i64 nv ∧ j ≤ dl.length ∧ Hid (NX W H bl a b p dl j nv) ∧ -1 ≤ nv ∧ nv ≤ 1000 ∧ WyS wr M OB W H V bl O ∧ wr.cell? ⟨LB, 0, none⟩ = some (.int .i64 qs) ∧ wr.cell? ⟨LB, 1, none⟩ = some (.int .i64 qd) ∧ OldRow wr A4 dl.length (fun i => (dl.getD i 0 : Nat)) ∧ wr.ownsRow N2 3 1 u8 (a :: l).length (vals (a :: l)) ∧ N2 ≤ wr.heap.size ∧ Below w.heap.size w wr)
      case atStart => exact ⟨0, -1, rfl, rfl, rfl, Nat.zero_le _, NX.start, by omega, by omega, S6, L0, L1, hrow6, O6, by omega, B6⟩
      case round =>
        obtain ⟨j, nv, hgj, rfl, rfl, hj, hNX, nv1, nv2, S, k0, k1, hrow, O', hzw, B⟩ := hrel
        clear S6 L0 L1 hrow6 O6 B6
        by_cases hlj : j < dl.length
        · obtain ⟨ba, oa, rfl, hba, hcell⟩ := hrow j hlj
          have hat := mvs_at (W := W) (H := H) (bl := bl) (x := (p : Int) % W) (y := (p : Int) / W) (k := 8) (i := j) (by rw [hdl.eq]; exact hlj)
          rw [hdl.eq] at hat
          obtain ⟨d, hd⟩ : ∃ d, dl.getD j 0 = d := ⟨_, rfl⟩
          rw [hd] at hat
          have HD : Hid (dl.getD j 0 = d) := hd
          have hcell' : wr.cell? ⟨ba, oa + j, none⟩ = some (.int .i64 (d : Int)) := by rw [← hd]; exact hcell
          obtain ⟨hd8, hmay⟩ := hat
          have hed : Edge W H bl p d (tgt W p d) := ⟨hd8, hpin, hmay, tgt_eq gw1 hmay⟩
          have hrin := hed.in' gw1
          have hrq : 0 ≤ ((tgt W p d : Nat) : Int) ∧ ((tgt W p d : Nat) : Int) < W * H := of_decide_eq_true hrin
          have hto := rto_v (b := M) (V := V) (bl := bl) (c := (p : Int)) (r := ((tgt W p d : Nat) : Int)) (tgt_eq gw1 hmay).symm wr S.ra hd8 (by omega) (by omega)
          have hgd := hgood.out d _ hed
          have hOr := hO (tgt W p d) (by omega)
          have hcand : Hid (∀ q, Cand W H bl a b p d q → On W H bl a b (tgt W p d) ∧ Good ((p : Int) % W) ((p : Int) / W) ((b : Int) % W) ((b : Int) / W) d) := fun q hc => by
            have := hed.one hc.1 rfl
            rw [← this]
            exact ⟨hc.2.2, hc.2.1⟩
          have hmk : Hid (On W H bl a b (tgt W p d) → Good ((p : Int) % W) ((p : Int) / W) ((b : Int) % W) ((b : Int) / W) d → Cand W H bl a b p d (tgt W p d)) := fun h1 h2 => ⟨hed, h2, h1⟩
          have hoc : ∀ w' : World, RefAt w' M W H V bl → Calls Tryd.prog 71 #[.pointer (some ⟨M, 0, none⟩), .int .i64 ((tgt W p d : Nat) : Int), .int .i64 b] w' fun e w'' => e = .returned (.agg #[.int .i64 (octS W (tgt W p d : Nat) b), .int .i64 (octD W (tgt W p d : Nat) b)]) ∧ Below w'.heap.size w' w'' := fun w' g' => roct_any _ _ w' g' hrin hb
          have hsr := oct_small g.w1 g.w2 g.h1 g.h2 hrin hb
          have hsn := octS_nonneg W (tgt W p d : Nat) b
          have hdn := octD_nonneg W (tgt W p d : Nat) b
          have st := st_bd d
          have m2 : Int.tmod (d : Int) 2 = stD d := by unfold stD; rw [Int.tmod_eq_emod_of_nonneg (by omega)]; omega
          have m3 : 1 - stD d = stS d := by omega
          have hpar : (stD d = 1 ∧ d % 2 = 1) ∨ (stD d = 0 ∧ d % 2 = 0) := by unfold stD; omega
          have HPar : Hid ((stD d = 1 ∧ d % 2 = 1) ∨ (stD d = 0 ∧ d % 2 = 0)) := hpar
          clear hd hcell hed hmay hpar
          generalize tgt W p d = r at *
          generalize octS W (r : Nat) b = xs at *
          generalize octD W (r : Nat) b = xd at *
          generalize stD d = sd at *
          generalize stS d = ss at *
          obtain ⟨r1, r2⟩ := hrq
          have r3 : (r : Int) < 256 := by omega
          have r4 : r < 256 := by omega
          have j1 : (0 : Int) ≤ (j : Int) := by omega
          have j2 : (j : Int) < (dl.length : Int) := by omega
          go_wp2_with (go_at_call 48; refine hto.mono ?_; rintro e w' ⟨rfl, hw'⟩; have hw' := hw'.symm; subst hw')
          have hcell' : wr.drew.cell? ⟨ba, oa + j, none⟩ = some (.int .i64 (d : Int)) := hcell'
          go_region
          have bA : Below wr.heap.size wr (wr.alloc (.cells #[.int .i64 ss, .int .i64 sd] 31)).drew := ((Below.refl _ _).alloc (Nat.le_refl _) _).drew
          have S8 := S.below bA
          have hrow8 := hrow.below bA
          have O8 := own_below O' bA
          have B8 := B.trans (bA.mono B.size)
          have hzw8 := Nat.le_trans hzw bA.size
          have kb : ∀ {x : Addr} {y : Value}, wr.cell? x = some y → (wr.alloc (.cells #[.int .i64 ss, .int .i64 sd] 31)).drew.cell? x = some y := fun {x y} h => (bA.cell (World.block_lt_of_cell? wr x h)).trans h
          have k0 := kb k0
          have k1 := kb k1
          have u0 : (wr.alloc (.cells #[.int .i64 ss, .int .i64 sd] 31)).drew.cell? ⟨wr.heap.size, 0, none⟩ = some (.int .i64 ss) := World.cell?_alloc_at (w := wr) #[.int .i64 ss, .int .i64 sd] 31 wr.heap.size 0 rfl
          have u1 : (wr.alloc (.cells #[.int .i64 ss, .int .i64 sd] 31)).drew.cell? ⟨wr.heap.size, 1, none⟩ = some (.int .i64 sd) := World.cell?_alloc_at (w := wr) #[.int .i64 ss, .int .i64 sd] 31 wr.heap.size 1 rfl
          clear S hrow O' B hto hcell' kb m2 m3 bA
          generalize (wr.alloc (.cells #[.int .i64 ss, .int .i64 sd] 31)).drew = w8 at *
          generalize wr.heap.size = SB at *
          have xo := S8.bo.c r r4
          have lO := S8.bo.lt
          have hne := since_ne w8
          have kx : ∀ (x : Since w8) {y : Addr} {z : Value}, w8.cell? y = some z → x.u.cell? y = some z := fun x {y z} h => (x.h.cell (World.block_lt_of_cell? w8 y h)).trans h
          have t1 : ∀ x : Since w8, x.u.cell? ⟨SB, 0, none⟩ = some (.int .i64 ss) := fun x => kx x u0
          have t2 : ∀ x : Since w8, x.u.cell? ⟨SB, 1, none⟩ = some (.int .i64 sd) := fun x => kx x u1
          have t3 : ∀ x : Since w8, x.u.cell? ⟨LB, 0, none⟩ = some (.int .i64 qs) := fun x => kx x k0
          have t4 : ∀ x : Since w8, x.u.cell? ⟨LB, 1, none⟩ = some (.int .i64 qd) := fun x => kx x k1
          have gs : ∀ x : Since w8, RefAt x.u M W H V bl := fun x => (S8.below x.h).ra
          have hpl := fun w => plus_any ss sd xs xd w (by unfold okC; omega) (by unfold okC; omega)
          clear u0 u1 k0 k1
          cases hOv : O r with
          | false =>
            rw [hOv] at xo
            have t0 : ∀ x : Since w8, x.u.cell? ⟨OB, r, none⟩ = some (.bool false) := fun x => kx x xo
            have HN : Hid (NX W H bl a b p dl (j + 1) nv) := hNX.out.skip (fun q hc => by
              rw [HD.out] at hc
              have := hOr.2 (hcand.out q hc).1
              rw [hOv] at this
              cases this)
            clear hOr hcand hmk hgd kx xo
            go_wp2
            refine wp_region_since (by kernel_rfl) (by kernel_rfl) ?_
            repeat (go_big_quiet_step (first | (go_at_call 71; exact Calls.since_of (hoc _ (gs _))) | (go_at_call 42; exact Calls.since_of (hpl _))))
            refine wpQuiet_nil ?_
            rintro _ ⟨x, rfl⟩
            go_wp2
            go_roundg (dl.length - (j + 1))
            case measure => omega
            case rel => exact ⟨j + 1, nv, rfl, by go_num, rfl, by omega, HN, by omega, by omega, S8.below x.h, (t3 x), (t4 x), hrow8.below x.h, own_below O8 x.h, Nat.le_trans hzw8 x.h.size, B8.trans (x.h.mono B8.size)⟩
          | true =>
            rw [hOv] at xo
            have t0 : ∀ x : Since w8, x.u.cell? ⟨OB, r, none⟩ = some (.bool true) := fun x => kx x xo
            have hon' := hOr.1 hOv
            clear hOr kx xo
            by_cases e1 : ss + xs = qs
            · by_cases e2 : sd + xd = qd
              · have hC : Hid (Cand W H bl a b p (dl.getD j 0) (r : Int)) := by rw [HD.out]; exact hmk.out hon' (hgd.2 ⟨by omega, by omega⟩)
                by_cases hneg : nv < 0
                · have HN : Hid (NX W H bl a b p dl (j + 1) r) := hNX.out.take hC.out (Or.inl hneg)
                  clear hcand hmk hgd
                  go_wp2
                  refine wp_region_since (by kernel_rfl) (by kernel_rfl) ?_
                  repeat (go_big_quiet_step (first | (go_at_call 71; exact Calls.since_of (hoc _ (gs _))) | (go_at_call 42; exact Calls.since_of (hpl _))))
                  refine wpQuiet_nil ?_
                  rintro _ ⟨x, rfl⟩
                  go_wp2
                  go_roundg (dl.length - (j + 1))
                  case measure => omega
                  case rel => exact ⟨j + 1, (r : Int), rfl, by go_num, rfl, by omega, HN, by omega, by omega, S8.below x.h, (t3 x), (t4 x), hrow8.below x.h, own_below O8 x.h, Nat.le_trans hzw8 x.h.size, B8.trans (x.h.mono B8.size)⟩
                · have hnn : 0 ≤ nv := by omega
                  have hnd : decide (nv < 0) = false := decide_eq_false hneg
                  rcases HPar.out with ⟨hp1, hp2⟩ | ⟨hp1, hp2⟩
                  · have HN : Hid (NX W H bl a b p dl (j + 1) r) := hNX.out.take hC.out (Or.inr (by rw [HD.out]; exact hp2))
                    clear hcand hmk hgd HPar
                    subst hp1
                    go_wp2
                    refine wp_region_since (by kernel_rfl) (by kernel_rfl) ?_
                    repeat (go_big_quiet_step (first | (go_at_call 71; exact Calls.since_of (hoc _ (gs _))) | (go_at_call 42; exact Calls.since_of (hpl _))))
                    refine wpQuiet_nil ?_
                    rintro _ ⟨x, rfl⟩
                    go_wp2
                    go_roundg (dl.length - (j + 1))
                    case measure => omega
                    case rel => exact ⟨j + 1, (r : Int), rfl, by go_num, rfl, by omega, HN, by omega, by omega, S8.below x.h, (t3 x), (t4 x), hrow8.below x.h, own_below O8 x.h, Nat.le_trans hzw8 x.h.size, B8.trans (x.h.mono B8.size)⟩
                  · have HN : Hid (NX W H bl a b p dl (j + 1) nv) := hNX.out.keep hneg (by rw [HD.out]; exact hp2)
                    clear hcand hmk hgd HPar
                    subst hp1
                    go_wp2
                    refine wp_region_since (by kernel_rfl) (by kernel_rfl) ?_
                    repeat (go_big_quiet_step (first | (go_at_call 71; exact Calls.since_of (hoc _ (gs _))) | (go_at_call 42; exact Calls.since_of (hpl _))))
                    refine wpQuiet_nil ?_
                    rintro _ ⟨x, rfl⟩
                    go_wp2
                    go_roundg (dl.length - (j + 1))
                    case measure => omega
                    case rel => exact ⟨j + 1, nv, rfl, by go_num, rfl, by omega, HN, by omega, by omega, S8.below x.h, (t3 x), (t4 x), hrow8.below x.h, own_below O8 x.h, Nat.le_trans hzw8 x.h.size, B8.trans (x.h.mono B8.size)⟩
              · have HN : Hid (NX W H bl a b p dl (j + 1) nv) := hNX.out.skip (fun q hc => by
                  rw [HD.out] at hc
                  have := (hgd.1 (hcand.out q hc).2).2
                  omega)
                clear hcand hmk hgd
                go_wp2
                refine wp_region_since (by kernel_rfl) (by kernel_rfl) ?_
                repeat (go_big_quiet_step (first | (go_at_call 71; exact Calls.since_of (hoc _ (gs _))) | (go_at_call 42; exact Calls.since_of (hpl _))))
                refine wpQuiet_nil ?_
                rintro _ ⟨x, rfl⟩
                go_wp2
                go_roundg (dl.length - (j + 1))
                case measure => omega
                case rel => exact ⟨j + 1, nv, rfl, by go_num, rfl, by omega, HN, by omega, by omega, S8.below x.h, (t3 x), (t4 x), hrow8.below x.h, own_below O8 x.h, Nat.le_trans hzw8 x.h.size, B8.trans (x.h.mono B8.size)⟩
            · have HN : Hid (NX W H bl a b p dl (j + 1) nv) := hNX.out.skip (fun q hc => by
                rw [HD.out] at hc
                have := (hgd.1 (hcand.out q hc).2).1
                omega)
              clear hcand hmk hgd
              go_wp2
              refine wp_region_since (by kernel_rfl) (by kernel_rfl) ?_
              repeat (go_big_quiet_step (first | (go_at_call 71; exact Calls.since_of (hoc _ (gs _))) | (go_at_call 42; exact Calls.since_of (hpl _))))
              refine wpQuiet_nil ?_
              rintro _ ⟨x, rfl⟩
              go_wp2
              go_roundg (dl.length - (j + 1))
              case measure => omega
              case rel => exact ⟨j + 1, nv, rfl, by go_num, rfl, by omega, HN, by omega, by omega, S8.below x.h, (t3 x), (t4 x), hrow8.below x.h, own_below O8 x.h, Nat.le_trans hzw8 x.h.size, B8.trans (x.h.mono B8.size)⟩
        · have e : j = dl.length := by omega
          subst e
          obtain ⟨k, r, rfl, hck⟩ := NX.done gw1 hoS hoD hdl.eq hon npb' hNX.out
          have hrn := octN_step gw1 hck.1.1 hck.1.2.1
          have hrin := hck.1.1.in' gw1
          have hron := hck.1.2.2
          have HC : Hid (Chn (WSt W H bl a b) a (ints (l ++ [r])) r) := by
            have := Chn.snoc hch.out (show WSt W H bl a b p r from ⟨k, hck⟩)
            rw [← ints_snoc] at this
            exact this
          clear hck hch hNX hgood
          go_wp2_with (at_builtin; refine wpList_append_own _ rfl _ _ 22 rfl N2 3 i0 (.int .i64 0) 1 8 Tryd.underlying22 hi hz0 hz1 hz2 rfl (by decide) _ _ _ rfl (World.ownsRow.alloc O' _) ⟨wr.heap.size, 0, none⟩ 1 1 [.int .i64 r] rfl rfl ?c1 ?c2 ?c3 ?c4 ?c5 ?_)
          case c1 =>
            intro j u hj
            match j, hj with
            | 0, hj =>
              simp at hj; subst hj; simp only [Addr.add]
              exact World.cell?_alloc_at (w := wr) #[.int .i64 r] 3 wr.heap.size 0 rfl
          case c2 => intro u hu; simp at hu; subst hu; rfl
          case c3 => simp; unfold maxLen; omega
          case c4 => simp; omega
          case c5 => simp; omega
          intro v' w7 hown' hgrow _
          have hg4 := hgrow.size
          have hbase := fun q hq => (O'.lt q hq).1
          have B7 : Below w.heap.size w w7 := (B.alloc B.size _).grown hgrow (by have := B.size; simp; omega) (fun q hq => Nat.le_trans z2 (hbase q hq))
          have S7 : WyS w7 M OB W H V bl O := (S.grown (World.grownBy_alloc wr _ none) (by simp) (by simp)).grown hgrow (fun e => by have := hbase M e.symm; omega) (fun e => by have := hbase OB e.symm; omega)
          have O7 : w7.ownsRow N2 3 1 v' (a :: (l ++ [r])).length (vals (a :: (l ++ [r]))) := by
            have e1 : (a :: (l ++ [r])).length = (a :: l).length + 1 := by simp
            have e2 : vals (a :: (l ++ [r])) = vals (a :: l) ++ [.int .i64 r] := by simp [vals]
            rw [e1, e2]
            exact hown'
          have z7 : N2 ≤ w7.heap.size := by simp at hg4; omega
          clear hown' hgrow O' S B hon
          go_wp2
          go_roundg (octN W r b).toNat
          case measure => have := octN_nonneg W r b; omega
          case rel => exact ⟨r, l ++ [r], rfl, rfl, by simp; omega, O7, HC, hron, hrin, S7, z7, B7⟩
end Go.Proofs.YtfhicijgpdpfpaaDoor
/-
  The reference's 'direct' over two rays.
-/
namespace Go.Proofs.YtfhicijgpdpfpaaDoor
open Go.RowKit

/-- what lies in memory while the corners are gone over -/
structure Rays (w : World) (M X Y Z : Nat) (W H V : Int) (bl : Nat → Bool) (a b : Nat) (F G : Int → Option (Int × Int)) (qs qd : Int) : Prop where
  ra : RefAt w M W H V bl
  ml : M < w.heap.size
  rx : RayAt w X a F
  ry : RayAt w Y b G
  z0 : w.cell? ⟨Z, 0, none⟩ = some (.int .i64 qs)
  z1 : w.cell? ⟨Z, 1, none⟩ = some (.int .i64 qd)
theorem Rays.below {w w' : World} {M X Y Z : Nat} {W H V : Int} {bl : Nat → Bool} {a b : Nat} {F G : Int → Option (Int × Int)} {qs qd : Int} (h : Rays w M X Y Z W H V bl a b F G qs qd) {B : Nat} (hb : Below B w w') (hB : B = w.heap.size := by rfl) : Rays w' M X Y Z W H V bl a b F G qs qd := by
  subst hB
  have k : ∀ {a : Addr} {v : Value}, w.cell? a = some v → w'.cell? a = some v := fun {a v} h => (hb.cell (World.block_lt_of_cell? w a h)).trans h
  exact ⟨h.ra.below hb h.ml, Nat.lt_of_lt_of_le h.ml hb.size, h.rx.below hb, h.ry.below hb, k h.z0, k h.z1⟩

/-- a cell that is on, by both rays -/
def OnR (F G : Int → Option (Int × Int)) (qs qd : Int) (z : Int) : Prop := ∃ s d t u, F z = some (s, d) ∧ G z = some (t, u) ∧ s + t = qs ∧ d + u = qd

def Ten (w : World) (X Y Z z a b : Nat) (s d t u x y : Int) : Prop :=
  w.cell? ⟨X, 0, none⟩ = some (.int .i64 a) ∧ w.cell? ⟨Y, 0, none⟩ = some (.int .i64 b) ∧ w.cell? ⟨X, 513 + z, none⟩ = some (.bool true) ∧ w.cell? ⟨Y, 513 + z, none⟩ = some (.bool true) ∧ w.cell? ⟨X, 1 + z * 2, none⟩ = some (.int .i64 s) ∧ w.cell? ⟨X, 1 + z * 2 + 1, none⟩ = some (.int .i64 d) ∧ w.cell? ⟨Y, 1 + z * 2, none⟩ = some (.int .i64 t) ∧ w.cell? ⟨Y, 1 + z * 2 + 1, none⟩ = some (.int .i64 u) ∧ w.cell? ⟨Z, 0, none⟩ = some (.int .i64 x) ∧ w.cell? ⟨Z, 1, none⟩ = some (.int .i64 y)
theorem Ten.below {w w' : World} {X Y Z z a b : Nat} {s d t u x y : Int} (h : Ten w X Y Z z a b s d t u x y) (hb : Below w.heap.size w w') : Ten w' X Y Z z a b s d t u x y := by
  obtain ⟨h1, h2, h3, h4, h5, h6, h7, h8, h9, h10⟩ := h
  have k : ∀ {a : Addr} {v : Value}, w.cell? a = some v → w'.cell? a = some v := fun {a v} h => (hb.cell (World.block_lt_of_cell? w a h)).trans h
  exact ⟨k h1, k h2, k h3, k h4, k h5, k h6, k h7, k h8, k h9, k h10⟩

set_option maxHeartbeats 8000000 in
set_option maxRecDepth 1000000 in
theorem direct' {M n cap : Nat} {A : Option Addr} {W H V qs qd : Int} {bl : Nat → Bool} {a b : Nat} {F G : Int → Option (Int × Int)} {RA RB : List Value} {l : List Nat} (w : World) (g : RefAt w M W H V bl) (hml : M < w.heap.size)
    (hA : ∀ w : World, RayAt (w.alloc (.cells RA.toArray 112)) w.heap.size a F) (hB : ∀ w : World, RayAt (w.alloc (.cells RB.toArray 112)) w.heap.size b G)
    (hoc : ∀ w' : World, RefAt w' M W H V bl → Calls Tryd.prog 71 #[.pointer (some ⟨M, 0, none⟩), .int .i64 a, .int .i64 b] w' fun e w'' => e = .returned (.agg #[.int .i64 qs, .int .i64 qd]) ∧ Below w'.heap.size w' w'')
    (okA : ∀ z, okC (labS F z) (labD F z)) (okB : ∀ z, okC (labS G z) (labD G z)) (hb : b < 256) (hn : l.length = n) (hn2 : n ≤ 256) (hz : ∀ j, j < l.length → l.getD j 0 < 256) (hrow : OldRow w A n (fun i => (l.getD i 0 : Nat))) :
    Calls Tryd.prog 73 #[.pointer (some ⟨M, 0, none⟩), .agg RA.toArray, .agg RB.toArray, .slice A n cap] w fun e w' => ∃ r, e = .returned (.bool r) ∧ (r = true ↔ F b = some (qs, qd) ∧ ∀ j, j < l.length → l.getD j 0 ≠ a → l.getD j 0 ≠ b → ¬ OnR F G qs qd (l.getD j 0 : Nat)) ∧ Below w.heap.size w w' := by
  subst hn
  have hx0 := hA w
  have B1 : Below w.heap.size w (w.alloc (.cells RA.toArray 112)) := (Below.refl _ _).alloc (Nat.le_refl _) _
  have hy0 := hB (w.alloc (.cells RA.toArray 112))
  have bA : Below (w.alloc (.cells RA.toArray 112)).heap.size (w.alloc (.cells RA.toArray 112)) ((w.alloc (.cells RA.toArray 112)).alloc (.cells RB.toArray 112)) := (Below.refl _ _).alloc (Nat.le_refl _) _
  have hx1 := hx0.below bA
  have hz1 : (w.alloc (.cells RA.toArray 112)).heap.size = w.heap.size + 1 := by simp
  rw [hz1] at hy0
  have B2 : Below w.heap.size w ((w.alloc (.cells RA.toArray 112)).alloc (.cells RB.toArray 112)) := B1.trans (bA.mono B1.size)
  have g2 := g.below B2 hml
  have hml2 := Nat.lt_of_lt_of_le hml B2.size
  have hrow2 := hrow.below B2
  have x0 := hx1.a0
  have y0 := hy0.a0
  have hbI : (b : Int) < 256 := by omega
  go_enter Tryd.func73, Tryd.ntmps73
  go_wp2_with fail
  refine (hoc _ g2).mono ?_
  rintro e w3 ⟨rfl, hb3⟩
  have B3 := B2.trans (hb3.mono B2.size)
  have bZ : Below w3.heap.size w3 (w3.alloc (.cells #[.int .i64 qs, .int .i64 qd] 31)) := (Below.refl _ _).alloc (Nat.le_refl _) _
  have R4 : Rays (w3.alloc (.cells #[.int .i64 qs, .int .i64 qd] 31)) M w.heap.size (w.heap.size + 1) w3.heap.size W H V bl a b F G qs qd :=
    ⟨(g2.below hb3 hml2).below bZ (Nat.lt_of_lt_of_le hml2 hb3.size), Nat.lt_of_lt_of_le (Nat.lt_of_lt_of_le hml2 hb3.size) bZ.size, (hx1.below hb3).below bZ, (hy0.below hb3).below bZ, World.cell?_alloc_at (w := w3) #[.int .i64 qs, .int .i64 qd] 31 w3.heap.size 0 rfl, World.cell?_alloc_at (w := w3) #[.int .i64 qs, .int .i64 qd] 31 w3.heap.size 1 rfl⟩
  have B4 := B3.trans (bZ.mono B3.size)
  have hrow4 := (hrow2.below hb3).below bZ
  clear hoc hx0 B1 hy0 bA hx1 hz1 B2 g2 hml2 hrow2 x0 y0 hb3 B3 bZ hrow hA hB
  go_wp2_with fail
  generalize w3.alloc (.cells #[.int .i64 qs, .int .i64 qd] 31) = w4 at *
  generalize w3.heap.size = Z at *
  generalize w.heap.size + 1 = Y at *
  obtain ⟨X, hX⟩ : ∃ X, w.heap.size = X := ⟨_, rfl⟩
  rw [hX] at R4
  simp only [hX]
  have HX : Hid (w.heap.size = X) := hX
  clear hX
  have ya := R4.ry.a0
  have xi := R4.rx.i0 b hb
  have xs := R4.rx.s0 b hb
  have xd := R4.rx.d0 b hb
  have z0 := R4.z0
  have z1 := R4.z1
  cases hFb : F (b : Int) with
  | none =>
    rw [hFb] at xi
    have xi : w4.cell? ⟨X, 513 + b, none⟩ = some (.bool false) := xi
    go_quiet (fail)
    go_wp2
    go_ret
    exact ⟨false, rfl, ⟨fun h => (by cases h), fun h => (by have := hFb.symm.trans h.1; cases this)⟩, below_drewN B4 _⟩
  | some c =>
    obtain ⟨s0, d0⟩ := c
    rw [hFb] at xi
    have xi : w4.cell? ⟨X, 513 + b, none⟩ = some (.bool true) := xi
    rw [(lab_some hFb).1] at xs
    rw [(lab_some hFb).2] at xd
    by_cases e1 : s0 = qs
    · by_cases e2 : d0 = qd
      · subst e1 e2
        go_quiet (fail)
        have R5 := R4.below (below_drewN (Below.refl w4.heap.size w4) nq)
        have B5 := below_drewN B4 nq
        have hrow5 := hrow4.below (below_drewN (Below.refl w4.heap.size w4) nq)
        clear R4 B4 hrow4 ya xi xs xd z0 z1
        generalize w4.drewN nq = w5 at *
        go_wp2
        go_loopg [10] l.length (fun gk iv wr => ∃ i : Nat, gk = l.length - i ∧ iv = .int .i64 i ∧ i ≤ l.length ∧ Hid (∀ j, j < i → l.getD j 0 ≠ a → l.getD j 0 ≠ b → ¬ OnR F G s0 d0 (l.getD j 0 : Nat)) ∧ Rays wr M X Y Z W H V bl a b F G s0 d0 ∧ OldRow wr A l.length (fun i => (l.getD i 0 : Nat)) ∧ Below w.heap.size w wr)
        case atStart => exact ⟨0, rfl, rfl, Nat.zero_le _, fun j hj => absurd hj (by omega), R5, hrow5, B5⟩
        case round =>
          obtain ⟨i, hgk, rfl, hi, hno, Rr, hrr, Br⟩ := hrel
          clear R5 B5 hrow5
          by_cases hlt : i < l.length
          · obtain ⟨ba, oa, rfl, hba, hcell⟩ := hrr i hlt
            have hz' := hz i hlt
            obtain ⟨z, hzz⟩ : ∃ z, l.getD i 0 = z := ⟨_, rfl⟩
            have hcell' : wr.cell? ⟨ba, oa + i, none⟩ = some (.int .i64 (z : Int)) := by rw [← hzz]; exact hcell
            rw [hzz] at hz'
            have HZ : Hid (l.getD i 0 = z) := hzz
            clear hzz hcell
            have z3 : (z : Int) < 256 := by omega
            have i1 : (0 : Int) ≤ (i : Int) := by omega
            have i2 : (i : Int) < (l.length : Int) := by omega
            have nxt : (z ≠ a → z ≠ b → ¬ OnR F G s0 d0 (z : Nat)) → Hid (∀ j, j < i + 1 → l.getD j 0 ≠ a → l.getD j 0 ≠ b → ¬ OnR F G s0 d0 (l.getD j 0 : Nat)) := fun h j hj => by
              by_cases e : j = i
              · rw [e, HZ.out]; exact h
              · exact hno.out j (by omega)
            have xa := Rr.rx.a0
            have ya := Rr.ry.a0
            have xi := Rr.rx.i0 z hz'
            have yi := Rr.ry.i0 z hz'
            have bD : Below wr.heap.size wr wr.drew := ⟨rfl, rfl, rfl, Nat.le_refl _, fun _ _ => rfl⟩
            by_cases ea : z = a
            · have HN := nxt (fun h => absurd ea h)
              clear nxt
              subst ea
              go_wp2
              go_quiet (fail)
              go_wp2
              go_roundg (l.length - (i + 1))
              case measure => omega
              case rel => exact ⟨i + 1, rfl, by go_num, by omega, HN, Rr.below (below_drewN (Below.refl _ _) _), hrr.below (below_drewN (Below.refl _ _) _), below_drewN Br _⟩
            · have na : (((z : Nat) : Int) != (a : Int)) = true := bne_iff_ne.2 (by omega)
              by_cases eb : z = b
              · have HN := nxt (fun _ h => absurd eb h)
                clear nxt
                subst eb
                go_wp2
                go_quiet (fail)
                go_wp2
                go_roundg (l.length - (i + 1))
                case measure => omega
                case rel => exact ⟨i + 1, rfl, by go_num, by omega, HN, Rr.below (below_drewN (Below.refl _ _) _), hrr.below (below_drewN (Below.refl _ _) _), below_drewN Br _⟩
              · have nb : (((z : Nat) : Int) != (b : Int)) = true := bne_iff_ne.2 (by omega)
                have na' : ¬ ((z : Int) = (a : Int)) := by omega
                have nb' : ¬ ((z : Int) = (b : Int)) := by omega
                cases hFz : F (z : Int) with
                | none =>
                  rw [hFz] at xi
                  have xi : wr.cell? ⟨X, 513 + z, none⟩ = some (.bool false) := xi
                  have HN := nxt (fun _ _ h => by obtain ⟨_, _, _, _, h1, _⟩ := h; rw [hFz] at h1; cases h1)
                  clear nxt
                  go_wp2
                  go_quiet (fail)
                  go_wp2
                  go_roundg (l.length - (i + 1))
                  case measure => omega
                  case rel => exact ⟨i + 1, rfl, by go_num, by omega, HN, Rr.below (below_drewN (Below.refl _ _) _), hrr.below (below_drewN (Below.refl _ _) _), below_drewN Br _⟩
                | some cz =>
                  obtain ⟨sz, dz⟩ := cz
                  rw [hFz] at xi
                  have xi : wr.cell? ⟨X, 513 + z, none⟩ = some (.bool true) := xi
                  cases hGz : G (z : Int) with
                  | none =>
                    rw [hGz] at yi
                    have yi : wr.cell? ⟨Y, 513 + z, none⟩ = some (.bool false) := yi
                    have HN := nxt (fun _ _ h => by obtain ⟨_, _, _, _, _, h1, _⟩ := h; rw [hGz] at h1; cases h1)
                    clear nxt
                    go_wp2
                    go_quiet (fail)
                    go_wp2
                    go_roundg (l.length - (i + 1))
                    case measure => omega
                    case rel => exact ⟨i + 1, rfl, by go_num, by omega, HN, Rr.below (below_drewN (Below.refl _ _) _), hrr.below (below_drewN (Below.refl _ _) _), below_drewN Br _⟩
                  | some cy =>
                    obtain ⟨tz, uz⟩ := cy
                    rw [hGz] at yi
                    have yi : wr.cell? ⟨Y, 513 + z, none⟩ = some (.bool true) := yi
                    have oA := okA (z : Int)
                    have oB := okB (z : Int)
                    rw [(lab_some hFz).1, (lab_some hFz).2] at oA
                    rw [(lab_some hGz).1, (lab_some hGz).2] at oB
                    have y0 := Rr.rx.s0 z hz'
                    have y1 := Rr.rx.d0 z hz'
                    have y2 := Rr.ry.s0 z hz'
                    have y3 := Rr.ry.d0 z hz'
                    rw [(lab_some hFz).1] at y0
                    rw [(lab_some hFz).2] at y1
                    rw [(lab_some hGz).1] at y2
                    rw [(lab_some hGz).2] at y3
                    have hpl := fun w => plus_any sz dz tz uz w oA oB
                    have CC : Ten wr.drew X Y Z z a b sz dz tz uz s0 d0 := ⟨xa, ya, xi, yi, y0, y1, y2, y3, Rr.z0, Rr.z1⟩
                    have Rr := Rr.below bD
                    have hrr := hrr.below bD
                    have Br := Br.trans (bD.mono Br.size)
                    clear bD y0 y1 y2 y3 oA oB xa ya xi yi
                    by_cases e1 : sz + tz = s0
                    · by_cases e2 : dz + uz = d0
                      · have HO : Hid (OnR F G s0 d0 (z : Nat)) := ⟨sz, dz, tz, uz, hFz, hGz, e1, e2⟩
                        clear nxt
                        go_wp2
                        go_region_held3 (fun w' => w'.cell? ⟨X, 0, none⟩ = some (.int .i64 a) ∧ w'.cell? ⟨Y, 0, none⟩ = some (.int .i64 b) ∧ w'.cell? ⟨X, 513 + z, none⟩ = some (.bool true) ∧ w'.cell? ⟨Y, 513 + z, none⟩ = some (.bool true) ∧ w'.cell? ⟨X, 1 + z * 2, none⟩ = some (.int .i64 sz) ∧ w'.cell? ⟨X, 1 + z * 2 + 1, none⟩ = some (.int .i64 dz) ∧ w'.cell? ⟨Y, 1 + z * 2, none⟩ = some (.int .i64 tz) ∧ w'.cell? ⟨Y, 1 + z * 2 + 1, none⟩ = some (.int .i64 uz) ∧ w'.cell? ⟨Z, 0, none⟩ = some (.int .i64 s0) ∧ w'.cell? ⟨Z, 1, none⟩ = some (.int .i64 d0)) (first | (exact CC)) (first | (go_at_call 42; refine (hpl _).mono ?_; rintro e wx ⟨rfl, hbx⟩; have CC := CC.below hbx; have Rr := Rr.below hbx; have hrr := hrr.below hbx; have Br := Br.trans (hbx.mono Br.size)))
                        all_goals
                          go_wp2
                          go_ret
                          exact ⟨false, rfl, ⟨fun h => (by cases h), fun h => absurd HO.out (by have := h.2 i hlt; rw [HZ.out] at this; exact this ea eb)⟩, Br⟩
                      · have HN := nxt (fun _ _ h => by obtain ⟨_, _, _, _, h1, h2, _, h4⟩ := h; rw [hFz] at h1; rw [hGz] at h2; cases h1; cases h2; exact e2 h4)
                        clear nxt
                        go_wp2
                        go_region_held3 (fun w' => w'.cell? ⟨X, 0, none⟩ = some (.int .i64 a) ∧ w'.cell? ⟨Y, 0, none⟩ = some (.int .i64 b) ∧ w'.cell? ⟨X, 513 + z, none⟩ = some (.bool true) ∧ w'.cell? ⟨Y, 513 + z, none⟩ = some (.bool true) ∧ w'.cell? ⟨X, 1 + z * 2, none⟩ = some (.int .i64 sz) ∧ w'.cell? ⟨X, 1 + z * 2 + 1, none⟩ = some (.int .i64 dz) ∧ w'.cell? ⟨Y, 1 + z * 2, none⟩ = some (.int .i64 tz) ∧ w'.cell? ⟨Y, 1 + z * 2 + 1, none⟩ = some (.int .i64 uz) ∧ w'.cell? ⟨Z, 0, none⟩ = some (.int .i64 s0) ∧ w'.cell? ⟨Z, 1, none⟩ = some (.int .i64 d0)) (first | (exact CC)) (first | (go_at_call 42; refine (hpl _).mono ?_; rintro e wx ⟨rfl, hbx⟩; have CC := CC.below hbx; have Rr := Rr.below hbx; have hrr := hrr.below hbx; have Br := Br.trans (hbx.mono Br.size)))
                        all_goals
                          go_wp2
                          go_roundg (l.length - (i + 1))
                        all_goals first | omega | exact ⟨i + 1, rfl, by go_num, by omega, HN, Rr, hrr, Br⟩
                    · have HN := nxt (fun _ _ h => by obtain ⟨_, _, _, _, h1, h2, h3, _⟩ := h; rw [hFz] at h1; rw [hGz] at h2; cases h1; cases h2; exact e1 h3)
                      clear nxt
                      go_wp2
                      go_region_held3 (fun w' => w'.cell? ⟨X, 0, none⟩ = some (.int .i64 a) ∧ w'.cell? ⟨Y, 0, none⟩ = some (.int .i64 b) ∧ w'.cell? ⟨X, 513 + z, none⟩ = some (.bool true) ∧ w'.cell? ⟨Y, 513 + z, none⟩ = some (.bool true) ∧ w'.cell? ⟨X, 1 + z * 2, none⟩ = some (.int .i64 sz) ∧ w'.cell? ⟨X, 1 + z * 2 + 1, none⟩ = some (.int .i64 dz) ∧ w'.cell? ⟨Y, 1 + z * 2, none⟩ = some (.int .i64 tz) ∧ w'.cell? ⟨Y, 1 + z * 2 + 1, none⟩ = some (.int .i64 uz) ∧ w'.cell? ⟨Z, 0, none⟩ = some (.int .i64 s0) ∧ w'.cell? ⟨Z, 1, none⟩ = some (.int .i64 d0)) (first | (exact CC)) (first | (go_at_call 42; refine (hpl _).mono ?_; rintro e wx ⟨rfl, hbx⟩; have CC := CC.below hbx; have Rr := Rr.below hbx; have hrr := hrr.below hbx; have Br := Br.trans (hbx.mono Br.size)))
                      all_goals
                        go_wp2
                        go_roundg (l.length - (i + 1))
                      all_goals first | omega | exact ⟨i + 1, rfl, by go_num, by omega, HN, Rr, hrr, Br⟩
          · have e : i = l.length := by omega
            subst e
            go_wp2
            go_ret
            exact ⟨true, rfl, ⟨fun _ => ⟨hFb, hno.out⟩, fun _ => rfl⟩, Br⟩
      · subst e1
        go_quiet (fail)
        go_wp2
        go_ret
        exact ⟨false, rfl, ⟨fun h => (by cases h), fun h => (by have := hFb.symm.trans h.1; simp at this; exact absurd this e2)⟩, below_drewN B4 _⟩
    · go_quiet (fail)
      go_wp2
      go_ret
      exact ⟨false, rfl, ⟨fun h => (by cases h), fun h => (by have := hFb.symm.trans h.1; simp at this; exact absurd this.1 e1)⟩, below_drewN B4 _⟩
end Go.Proofs.YtfhicijgpdpfpaaDoor
/-
  Corners: the reference's.
-/
namespace Go.Proofs.YtfhicijgpdpfpaaDoor
open Go.RowKit

theorem drewN_two (w : World) (m k : Nat) : (w.drewN m).drewN k = w.drewN (m + k) := by simp
/-- does a way turn here, round the cell at these differences? -/
def rcB (W H : Int) (bl : Nat → Bool) (x y : Int) (i j : Nat) : Bool := !openB W H bl (x + (2 * (i : Int) - 1)) (y + (2 * (j : Int) - 1)) && (openB W H bl (x + (2 * (i : Int) - 1)) y && openB W H bl x (y + (2 * (j : Int) - 1)))
theorem rcB_cr (W H : Int) (bl : Nat → Bool) (x y : Int) : rcB W H bl x y 1 0 = crB W H bl x y 1 ∧ rcB W H bl x y 1 1 = crB W H bl x y 3 ∧ rcB W H bl x y 0 1 = crB W H bl x y 5 ∧ rcB W H bl x y 0 0 = crB W H bl x y 7 := by
  unfold rcB crB
  refine ⟨?_, ?_, ?_, ?_⟩ <;> exact Bool.and_comm _ _
theorem turn_of_rc {W H x y : Int} {bl : Nat → Bool} {i j : Nat} (hi : i < 2) (hj : j < 2) (h : rcB W H bl x y i j = true) : turnB W H bl x y = true := by
  obtain ⟨h1, h2, h3, h4⟩ := rcB_cr W H bl x y
  have : (i = 0 ∨ i = 1) ∧ (j = 0 ∨ j = 1) := by omega
  obtain ⟨rfl | rfl, rfl | rfl⟩ := this
  · exact turnB_true (j := 3) (by omega) (by rw [← h4]; exact h)
  · exact turnB_true (j := 2) (by omega) (by rw [← h3]; exact h)
  · exact turnB_true (j := 0) (by omega) (by rw [← h1]; exact h)
  · exact turnB_true (j := 1) (by omega) (by rw [← h2]; exact h)
theorem no_turn_of_rc {W H x y : Int} {bl : Nat → Bool} (h : ∀ i j, i < 2 → j < 2 → rcB W H bl x y i j = false) : turnB W H bl x y = false := by
  obtain ⟨h1, h2, h3, h4⟩ := rcB_cr W H bl x y
  refine turnB_false fun j hj => ?_
  have : j = 0 ∨ j = 1 ∨ j = 2 ∨ j = 3 := by omega
  rcases this with rfl | rfl | rfl | rfl
  · rw [← h1]; exact h 1 0 (by omega) (by omega)
  · rw [← h2]; exact h 1 1 (by omega) (by omega)
  · rw [← h3]; exact h 0 1 (by omega) (by omega)
  · rw [← h4]; exact h 0 0 (by omega) (by omega)

set_option maxHeartbeats 1600000 in
set_option maxRecDepth 1000000 in
theorem rcorner' {b : Nat} {W H V c x y : Int} {bl : Nat → Bool} {r : Bool} (w : World) (g : RefAt w b W H V bl) (hx : Int.tmod c W = x) (hy : Int.tdiv c W = y) (hr : (openB W H bl x y && turnB W H bl x y) = r) (x1 : 0 ≤ x) (x2 : x < 16) (y1 : 0 ≤ y) (y2 : y < 16) :
    Calls Tryd.prog 31 #[.pointer (some ⟨b, 0, none⟩), .int .i64 c] w fun e w' => e = .returned (.bool r) ∧ ∃ m, w' = w.drewN m := by
  have c0 := g.c0
  have gw1 := g.w1
  have hne : W ≠ 0 := by omega
  have hwy : IntKind.i64.wrap y = y := by unfold IntKind.wrap; simp [IntKind.bits, IntKind.signed]; omega
  cases hA : openB W H bl x y with
  | false =>
    rw [hA] at hr
    simp only [Bool.false_and] at hr
    subst hr
    go_enter Tryd.func31, Tryd.ntmps31
    go_wp2_with (go_at_call 66; refine (ropen_v (by assumption) _ g).mono ?_; rintro e w' ⟨rfl, m, rfl⟩)
    go_ret
    exact ⟨rfl, _, rfl⟩
  | true =>
    rw [hA] at hr
    simp only [Bool.true_and] at hr
    have HR : Hid (turnB W H bl x y = r) := hr
    clear hr
    go_enter Tryd.func31, Tryd.ntmps31
    go_wp2_with (go_at_call 66; refine (ropen_v (by assumption) _ g).mono ?_; rintro e w' ⟨rfl, m, rfl⟩)
    go_loopg [7] (2 : Nat) (fun gk dv wr => ∃ i : Nat, i ≤ 2 ∧ gk = 2 - i ∧ dv = .int .i64 (2 * (i : Int) - 1) ∧ Hid (∀ i' j', i' < i → j' < 2 → rcB W H bl x y i' j' = false) ∧ ∃ m, wr = w.drewN m)
    case atStart => exact ⟨0, Nat.zero_le _, rfl, rfl, fun i' _ hj => absurd hj (by omega), m, rfl⟩
    case round =>
      obtain ⟨i, hi, hgk, rfl, hall, m, rfl⟩ := hrel
      by_cases hlt : i < 2
      · have hlt2 : 2 * (i : Int) - 1 < 2 := by omega
        go_wp2
        go_loopg [8] (2 : Nat) (fun gk dv wr => ∃ j : Nat, j ≤ 2 ∧ gk = 2 - j ∧ dv = .int .i64 (2 * (j : Int) - 1) ∧ Hid (∀ j', j' < j → rcB W H bl x y i j' = false) ∧ ∃ m, wr = w.drewN m)
        case atStart => exact ⟨0, Nat.zero_le _, rfl, rfl, fun j' hj => absurd hj (by omega), m, rfl⟩
        case round =>
          obtain ⟨j, hj, hgj, rfl, hin, m2, rfl⟩ := hrel
          by_cases hlj : j < 2
          · have hlj2 : 2 * (j : Int) - 1 < 2 := by omega
            have hrc : rcB W H bl x y i j = (!openB W H bl (x + (2 * (i : Int) - 1)) (y + (2 * (j : Int) - 1)) && (openB W H bl (x + (2 * (i : Int) - 1)) y && openB W H bl x (y + (2 * (j : Int) - 1)))) := rfl
            have go_on : rcB W H bl x y i j = false → Hid (∀ j', j' < j + 1 → rcB W H bl x y i j' = false) := fun h j' hj' => by
              by_cases e : j' = j
              · rw [e]; exact h
              · exact hin.out j' (by omega)
            cases hP : openB W H bl (x + (2 * (i : Int) - 1)) (y + (2 * (j : Int) - 1)) with
            | true =>
              rw [hP] at hrc
              have HN := go_on (by rw [hrc]; rfl)
              clear hrc go_on
              cases hQ : openB W H bl (x + (2 * (i : Int) - 1)) y <;> cases hS : openB W H bl x (y + (2 * (j : Int) - 1))
              all_goals
                go_wp2_with (go_at_call 66; refine (ropen_v (by assumption) _ (g.drewN _)).mono ?_; rintro e w' ⟨rfl, m3, rfl⟩)
                go_roundg (2 - (j + 1))
              all_goals first | omega | exact ⟨j + 1, by omega, rfl, by go_num, HN, _, rfl⟩
            | false =>
              cases hQ : openB W H bl (x + (2 * (i : Int) - 1)) y <;> cases hS : openB W H bl x (y + (2 * (j : Int) - 1))
              case true.true =>
                rw [hP, hQ, hS] at hrc
                have HT : Hid (turnB W H bl x y = true) := turn_of_rc hlt hlj hrc
                clear hrc go_on
                go_wp2_with (go_at_call 66; refine (ropen_v (by assumption) _ (g.drewN _)).mono ?_; rintro e w' ⟨rfl, m3, rfl⟩)
                go_ret
                exact ⟨by rw [← HR.out, HT.out]; rfl, _, rfl⟩
              all_goals
                rw [hP, hQ, hS] at hrc
                have HN := go_on (by rw [hrc]; rfl)
                clear hrc go_on
                go_wp2_with (go_at_call 66; refine (ropen_v (by assumption) _ (g.drewN _)).mono ?_; rintro e w' ⟨rfl, m3, rfl⟩)
                go_roundg (2 - (j + 1))
              all_goals first | omega | exact ⟨j + 1, by omega, rfl, by go_num, HN, _, rfl⟩
          · have e : j = 2 := by omega
            subst e
            go_wp2
            go_roundg (2 - (i + 1))
            case measure => omega
            case rel =>
              refine ⟨i + 1, by omega, rfl, by go_num, fun i' j' hi' hj' => ?_, _, rfl⟩
              by_cases e : i' = i
              · rw [e]; exact hin.out j' hj'
              · exact hall.out i' j' (by omega) hj'
      · have e : i = 2 := by omega
        subst e
        have HT : Hid (turnB W H bl x y = false) := no_turn_of_rc hall.out
        go_wp2
        go_ret
        exact ⟨by rw [← HR.out, HT.out]; rfl, _, rfl⟩

theorem rcorner_v {b : Nat} {W H V : Int} {bl : Nat → Bool} {c : Int} {r : Bool} (hc : cornB W H bl c = r) (w : World) (g : RefAt w b W H V bl) (hr : inB W H c = true) :
    Calls Tryd.prog 31 #[.pointer (some ⟨b, 0, none⟩), .int .i64 c] w fun e w' => e = .returned (.bool r) ∧ ∃ m, w' = w.drewN m := by
  obtain ⟨x1, x2, y1, y2⟩ := place_bd g.w1 hr
  have hq : 0 ≤ c ∧ c < W * H := of_decide_eq_true hr
  have gw := g.w2
  have gh := g.h2
  exact rcorner' w g (Int.tmod_eq_emod_of_nonneg hq.1) (Int.tdiv_eq_ediv_of_nonneg hq.1) hc x1 (by omega) y1 (by omega)

set_option maxHeartbeats 1600000 in
set_option maxRecDepth 1000000 in
theorem rcorners_any {b : Nat} {W H V : Int} {bl : Nat → Bool} (w : World) (g : RefAt w b W H V bl) (hb : b < w.heap.size) :
    Calls Tryd.prog 34 #[.pointer (some ⟨b, 0, none⟩)] w fun e w' => ∃ v, e = .returned v ∧
      w'.ownsRow w.heap.size 3 1 v (crs W H bl (W * H).toNat).length (vals (crs W H bl (W * H).toNat)) ∧ Below w.heap.size w w' := by
  obtain ⟨i0, hi, hz0, hz1, hz2⟩ := info_parts Tryd.info3
  obtain ⟨k1, k2⟩ := wh_bd g.w1 g.w2 g.h1 g.h2
  go_enter Tryd.func34, Tryd.ntmps34
  go_wp2
  go_loopw [3, 4] (fun v i wr => ∃ k : Nat, (k : Int) ≤ W * H ∧ i = .int .i64 k ∧ wr.ownsRow w.heap.size 3 1 v (crs W H bl k).length (vals (crs W H bl k)) ∧ Below w.heap.size w wr)
    (fun _ i _ => 1000 - (intOf i).toNat)
  case atStart => exact ⟨0, by omega, rfl, World.ownsRow_nil _ _ _ _, Below.refl _ _⟩
  case round =>
    obtain ⟨k, hk, rfl, hown, hnx⟩ := hrel
    have hl := crs_len W H bl k
    have gr := g.below hnx hb
    have c0 := gr.c0
    have c1 := gr.c1
    have hsz := hnx.size
    by_cases hlt : (k : Int) < W * H
    · have hms := crs_succ W H bl k
      have hin : inB W H (k : Nat) = true := decide_eq_true ⟨by omega, hlt⟩
      cases hM : cornB W H bl (k : Nat) with
      | false =>
        rw [hM] at hms
        have h0 : crs W H bl (k + 1) = crs W H bl k := by simpa using hms
        have HS : Hid (crs W H bl (k + 1) = crs W H bl k) := h0
        clear h0 hms
        go_wp2
        go_quiet (fail)
        go_wp2_with (go_at_call 31; refine (rcorner_v hM _ (gr.drewN _) hin).mono ?_; rintro e w' ⟨rfl, m, rfl⟩)
        go_roundw
        case rel => exact ⟨k + 1, by omega, by go_num, by rw [HS.out]; exact hown, below_drewN hnx _⟩
        case measure => simp [intOf]; omega
      | true =>
        rw [hM] at hms
        have h0 : crs W H bl (k + 1) = crs W H bl k ++ [k] := by simpa using hms
        have HS : Hid (crs W H bl (k + 1) = crs W H bl k ++ [k]) := h0
        clear h0 hms
        go_wp2
        go_quiet (fail)
        go_wp2_with (first | (go_at_call 31; refine (rcorner_v hM _ (gr.drewN _) hin).mono ?_; rintro e w' ⟨rfl, m, hm'⟩; rw [drewN_two] at hm'; subst hm') | (at_builtin; refine wpList_append_own _ rfl _ _ 22 rfl w.heap.size 3 i0 (.int .i64 0) 1 8 Tryd.underlying22 hi hz0 hz1 hz2 rfl (by decide) _ _ _ rfl (World.ownsRow.alloc hown _) ⟨wr.heap.size, 0, none⟩ 1 1 [.int .i64 k] rfl rfl ?c1 ?c2 ?c3 ?c4 ?c5 ?_))
        case c1 =>
          intro j u hj
          match j, hj with
          | 0, hj =>
            simp at hj; subst hj; simp only [Addr.add]
            exact World.cell?_alloc_at (w := wr.drewN (nq + m)) #[.int .i64 k] 3 wr.heap.size 0 rfl
        case c2 => intro u hu; simp at hu; subst hu; rfl
        case c3 => unfold maxLen; omega
        case c4 => omega
        case c5 => simp; omega
        intro v' w1 hown' hgrow _
        have hbase := fun q hq => (hown.lt q hq).1
        have B1 : Below w.heap.size w w1 := ((below_drewN hnx (nq + m)).alloc hsz _).grown hgrow (by simp; omega) hbase
        have O1 : w1.ownsRow w.heap.size 3 1 v' (crs W H bl (k + 1)).length (vals (crs W H bl (k + 1))) := by
          rw [HS.out]
          simpa [vals] using hown'
        clear hown' hgrow hown hnx gr c0 c1
        go_wp2
        go_roundw
        case rel => exact ⟨k + 1, by omega, by go_num, O1, B1⟩
        case measure => simp [intOf]; omega
    · have e : (W * H).toNat = k := by omega
      have HE : Hid ((W * H).toNat = k) := e
      clear e
      go_wp2
      go_quiet (fail)
      go_wp2
      go_ret
      exact ⟨_, rfl, by rw [HE.out]; exact hown, below_drewN hnx _⟩
end Go.Proofs.YtfhicijgpdpfpaaDoor
