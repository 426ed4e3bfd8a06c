/-
  Texts laid together: Towards, KeepM.
-/
import Derived.Test.YtmnpplkjhnoglaaGreatDoorP13
/-
  Steps towards a cell: what 'isTowards' and 'onward' of package reach say.
-/
namespace Go.Proofs.YtmnpplkjhnoglaaGreatDoor
open Go.RowKit

/-- does a step bring one nearer by what it costs? -/
def goodB (x y u v : Int) (k : Nat) : Bool := decide (dst (dst (x + stepX k) u) (dst (y + stepY k) v) + stS k = dst (dst x u) (dst y v)) && decide (les (dst (x + stepX k) u) (dst (y + stepY k) v) + stD k = les (dst x u) (dst y v))
theorem goodB_iff {x y u v : Int} {k : Nat} : goodB x y u v k = true ↔ Good x y u v k := by
  unfold goodB Good
  rw [Bool.and_eq_true, decide_eq_true_eq, decide_eq_true_eq]
theorem oct_step (k : Nat) (h : k < 8) : dst (dst 0 (stepX k)) (dst 0 (stepY k)) = stS k ∧ les (dst 0 (stepX k)) (dst 0 (stepY k)) = stD k := by
  rcases k8 h with rfl | rfl | rfl | rfl | rfl | rfl | rfl | rfl <;> decide

set_option maxHeartbeats 2000000 in
set_option maxRecDepth 1000000 in
theorem isTowards' {x y u v dx dy s1 d1 s2 d2 s3 d3 : Int} {k : Nat} {r : Bool} (w : World)
    (x1 : -100 ≤ x) (x2 : x ≤ 100) (y1 : -100 ≤ y) (y2 : y ≤ 100) (e1 : -1 ≤ dx) (e2 : dx ≤ 1) (e3 : -1 ≤ dy) (e4 : dy ≤ 1)
    (hs : Calls Tryz.prog 139 #[.int .i64 k] w fun e w' => e = .returned (.tuple #[.int .i64 dx, .int .i64 dy]) ∧ ∃ m, w' = w.drewN m)
    (ho1 : ∀ w, Calls Tryz.prog 134 #[.int .i64 0, .int .i64 0, .int .i64 dx, .int .i64 dy] w fun e w' => e = .returned (.agg #[.int .i64 s1, .int .i64 d1]) ∧ Below w.heap.size w w')
    (ho2 : ∀ w, Calls Tryz.prog 134 #[.int .i64 (x + dx), .int .i64 (y + dy), .int .i64 u, .int .i64 v] w fun e w' => e = .returned (.agg #[.int .i64 s2, .int .i64 d2]) ∧ Below w.heap.size w w')
    (ho3 : ∀ w, Calls Tryz.prog 134 #[.int .i64 x, .int .i64 y, .int .i64 u, .int .i64 v] w fun e w' => e = .returned (.agg #[.int .i64 s3, .int .i64 d3]) ∧ Below w.heap.size w w')
    (ha : ∀ w, Calls Tryz.prog 106 #[.agg #[.int .i64 s1, .int .i64 d1], .agg #[.int .i64 s2, .int .i64 d2]] w fun e w' => e = .returned (.agg #[.int .i64 (s1 + s2), .int .i64 (d1 + d2)]) ∧ Below w.heap.size w w')
    (hr : (decide (s1 + s2 = s3) && decide (d1 + d2 = d3)) = r) :
    Calls Tryz.prog 172 #[.int .i64 x, .int .i64 y, .int .i64 k, .int .i64 u, .int .i64 v] w fun e w' => e = .returned (.bool r) ∧ Below w.heap.size w w' := by
  go_enter Tryz.func172, Tryz.ntmps172
  go_wp2_with (go_at_call 139; refine hs.mono ?_; rintro e w' ⟨rfl, m, rfl⟩)
  refine (ho1 _).mono ?_
  rintro e w1 ⟨rfl, hb1⟩
  have B1 : Below w.heap.size w w1 := (below_drewN (Below.refl _ _) m).trans hb1
  clear hb1 ho1 hs
  go_wp2_with fail
  refine (ho2 _).mono ?_
  rintro e w2 ⟨rfl, hb2⟩
  have B2 : Below w.heap.size w w2 := B1.trans (hb2.mono B1.size)
  clear hb2 ho2 B1
  go_wp2_with fail
  refine (ha _).mono ?_
  rintro e w3 ⟨rfl, hb3⟩
  have B2' : Below w.heap.size w ((w2.alloc (.cells #[.int .i64 s1, .int .i64 d1] 65)).alloc (.cells #[.int .i64 s2, .int .i64 d2] 65)) := (B2.alloc B2.size _).alloc (by have := B2.size; simp; omega) _
  have B3 : Below w.heap.size w w3 := B2'.trans (hb3.mono B2'.size)
  clear hb3 ha B2 B2'
  go_wp2_with fail
  refine (ho3 _).mono ?_
  rintro e w4 ⟨rfl, hb4⟩
  have B4 : Below w.heap.size w w4 := B3.trans (hb4.mono B3.size)
  clear hb4 ho3 B3
  by_cases q1 : s1 + s2 = s3
  · by_cases q2 : d1 + d2 = d3
    · rw [decide_eq_true q1, decide_eq_true q2] at hr
      subst hr q1 q2
      go_wp2
      go_ret
      exact ⟨rfl, B4⟩
    · rw [decide_eq_true q1, decide_eq_false q2] at hr
      subst hr q1
      go_wp2
      go_ret
      exact ⟨rfl, B4⟩
  · rw [decide_eq_false q1] at hr
    subst hr
    go_wp2
    go_ret
    exact ⟨rfl, B4⟩

theorem near_place {a : Int} (h : -100 ≤ a) (k : a ≤ 100) : nearB a := by unfold nearB; omega
theorem okC_oct {x y u v : Int} (x1 : -100 ≤ x) (x2 : x ≤ 100) (y1 : -100 ≤ y) (y2 : y ≤ 100) (u1 : -100 ≤ u) (u2 : u ≤ 100) (v1 : -100 ≤ v) (v2 : v ≤ 100) : okC (dst (dst x u) (dst y v)) (les (dst x u) (dst y v)) := by
  unfold okC
  have a : 0 ≤ dst x u ∧ dst x u ≤ 200 := by unfold dst; split <;> omega
  have b : 0 ≤ dst y v ∧ dst y v ≤ 200 := by unfold dst; split <;> omega
  generalize dst x u = X at *
  generalize dst y v = Y at *
  unfold dst les
  split <;> omega
theorem okC_st (k : Nat) : okC (stS k) (stD k) := by
  have := st_bd k
  unfold okC
  omega

theorem isTowards_v {x y u v : Int} {k : Nat} {r : Bool} (hr : goodB x y u v k = r) (w : World) (s : StepsAt w) (hk : k < 8) (x1 : 0 ≤ x) (x2 : x ≤ 50) (y1 : 0 ≤ y) (y2 : y ≤ 50) (u1 : 0 ≤ u) (u2 : u ≤ 50) (v1 : 0 ≤ v) (v2 : v ≤ 50) :
    Calls Tryz.prog 172 #[.int .i64 x, .int .i64 y, .int .i64 k, .int .i64 u, .int .i64 v] w fun e w' => e = .returned (.bool r) ∧ Below w.heap.size w w' := by
  obtain ⟨e1, e2, e3, e4⟩ := step_bd k
  obtain ⟨o1, o2⟩ := oct_step k hk
  have n1 := near_place (show -100 ≤ stepX k by omega) (by omega)
  have n2 := near_place (show -100 ≤ stepY k by omega) (by omega)
  have n0 := near_place (show -100 ≤ (0 : Int) by omega) (by omega)
  have nx := near_place (show -100 ≤ x by omega) (by omega)
  have ny := near_place (show -100 ≤ y by omega) (by omega)
  have nu := near_place (show -100 ≤ u by omega) (by omega)
  have nv := near_place (show -100 ≤ v by omega) (by omega)
  have nx' := near_place (show -100 ≤ x + stepX k by omega) (by omega)
  have ny' := near_place (show -100 ≤ y + stepY k by omega) (by omega)
  refine isTowards' (s1 := stS k) (d1 := stD k) w (by omega) (by omega) (by omega) (by omega) e1 e2 e3 e4 (step_any k w s hk) (fun w => ?_) (fun w => oct_any _ _ _ _ w nx' ny' nu nv) (fun w => oct_any _ _ _ _ w nx ny nu nv) (fun w => add_any _ _ _ _ w (okC_st k) (okC_oct (by omega) (by omega) (by omega) (by omega) (by omega) (by omega) (by omega) (by omega))) ?_
  · have := oct_any 0 0 (stepX k) (stepY k) w n0 n0 n1 n2
    rw [o1, o2] at this
    exact this
  · rw [← hr]
    unfold goodB
    rw [Int.add_comm (stS k), Int.add_comm (stD k)]
end Go.Proofs.YtmnpplkjhnoglaaGreatDoor
/-
  What is kept: blocks that were not written; a cost in a block of its own; a row that one owns.
-/
namespace Go.Proofs.YtmnpplkjhnoglaaGreatDoor
open Go.RowKit

theorem Keep.two {F : Nat → Prop} {w w' : World} (h : Keep F w w') (n : Nat) (hn : n + 1 + 1 ≤ w.heap.size) (hF : ∀ k, n ≤ k → ¬ F k) :
    (∀ o, w'.cell? ⟨n, o, none⟩ = w.cell? ⟨n, o, none⟩) ∧ (∀ o, w'.cell? ⟨n + 1, o, none⟩ = w.cell? ⟨n + 1, o, none⟩) :=
  ⟨fun o => h.cell (p := ⟨n, o, none⟩) (by show n < _; omega) (hF n (by omega)), fun o => h.cell (p := ⟨n + 1, o, none⟩) (by show n + 1 < _; omega) (hF (n + 1) (by omega))⟩
theorem own_below {w w' : World} {base k n : Nat} {e : TypeId} {v : Value} {xs : List Value} (h : w.ownsRow base e k v n xs) (hb : Below w.heap.size w w') : w'.ownsRow base e k v n xs := by
  refine ⟨h.1, ?_⟩
  rcases h.2 with h2 | ⟨g, cap, cur, hv, hbase, hg, h3⟩
  · exact Or.inl h2
  · exact Or.inr ⟨g, cap, cur, hv, hbase, (hb.block g (Array.getElem?_eq_some_iff.1 hg).1).trans hg, h3⟩
/-- a cost in a block of one's own -/
structure Slot (w : World) (B : Nat) (s d : Int) : Prop where
  c0 : w.cell? ⟨B, 0, none⟩ = some (.int .i64 s)
  c1 : w.cell? ⟨B, 1, none⟩ = some (.int .i64 d)
  z0 : w.frozen? ⟨B, 0, none⟩ = false
  z1 : w.frozen? ⟨B, 1, none⟩ = false
theorem Slot.keep {F : Nat → Prop} {w w' : World} {B : Nat} {s d : Int} (h : Slot w B s d) (K : Keep F w w') (hn : ¬ F B) : Slot w' B s d := by
  have hB := World.block_lt_of_cell? w _ h.c0
  exact ⟨K.cellOf h.c0 hn, K.cellOf h.c1 hn, (K.frozen (p := ⟨B, 0, none⟩) hB hn).trans h.z0, (K.frozen (p := ⟨B, 1, none⟩) hB hn).trans h.z1⟩
theorem Slot.below {w w' : World} {B : Nat} {s d : Int} (h : Slot w B s d) (hb : Below w.heap.size w w') : Slot w' B s d := h.keep (F := fun _ => False) (Keep.of_below hb) id
theorem Slot.new (w : World) (s d : Int) : Slot (w.alloc (.cells #[.int .i64 s, .int .i64 d] 65)) w.heap.size s d :=
  ⟨World.cell?_alloc_at #[.int .i64 s, .int .i64 d] 65 w.heap.size 0 rfl, World.cell?_alloc_at #[.int .i64 s, .int .i64 d] 65 w.heap.size 1 rfl, free_alloc w #[.int .i64 s, .int .i64 d] 65 w.heap.size (Nat.le_refl _) 0, free_alloc w #[.int .i64 s, .int .i64 d] 65 w.heap.size (Nat.le_refl _) 1⟩
theorem setTwo (w : World) (B : Nat) (s d : Int) {x y : Value} (h0 : w.cell? ⟨B, 0, none⟩ = some x) (h1 : w.cell? ⟨B, 1, none⟩ = some y) :
    ((w.setCell ⟨B, 0, none⟩ (.int .i64 s)).setCell ⟨B, 1, none⟩ (.int .i64 d)).cell? ⟨B, 0, none⟩ = some (.int .i64 s) ∧ ((w.setCell ⟨B, 0, none⟩ (.int .i64 s)).setCell ⟨B, 1, none⟩ (.int .i64 d)).cell? ⟨B, 1, none⟩ = some (.int .i64 d) := by
  constructor
  · rw [World.cell?_setCell_other _ _ _ _ (by intro e; cases e)]; exact World.cell?_setCell_same _ _ _ h0
  · refine World.cell?_setCell_same _ _ _ (u := y) ?_
    rw [World.cell?_setCell_other _ _ _ _ (by intro e; cases e)]; exact h1
theorem Slot.set {w : World} {B : Nat} {x y : Int} (S : Slot w B x y) (s d : Int) : Slot ((w.setCell ⟨B, 0, none⟩ (.int .i64 s)).setCell ⟨B, 1, none⟩ (.int .i64 d)) B s d := by
  have r := setTwo w B s d S.c0 S.c1
  exact ⟨r.1, r.2, by simpa using S.z0, by simpa using S.z1⟩
theorem set_keep (w : World) (B : Nat) (s d : Int) : Keep (fun k => k = B) w ((w.setCell ⟨B, 0, none⟩ (.int .i64 s)).setCell ⟨B, 1, none⟩ (.int .i64 d)) :=
  ((Keep.refl (fun k => k = B) w).setCell (p := ⟨B, 0, none⟩) (fun _ => rfl) _).setCell (p := ⟨B, 1, none⟩) (fun _ => rfl) _
/-- a map's store: what stands elsewhere stays -/
theorem turned_keep {w w' : World} {b : Nat} (h : w.mapTurned w' b) : Keep (fun k => k = b) w w' :=
  (Keep.refl _ w).grown h.grown (fun k hk _ => by cases hk; rfl)
theorem GridAt.keep {D : Nat → Prop} {w w' : World} {b : Nat} {W H V : Int} {bl : Nat → Bool} (g : GridAt w b W H V bl) (K : Keep D w w') (h : ¬ D b) : GridAt w' b W H V bl := by
  have hb : b < w.heap.size := World.block_lt_of_cell? w _ g.c0
  exact ⟨g.w1, g.w2, g.h1, g.h2, (K.cell (p := ⟨b, 0, none⟩) hb h).trans g.c0, (K.cell (p := ⟨b, 1, none⟩) hb h).trans g.c1, (K.cell (p := ⟨b, 2, none⟩) hb h).trans g.c2, fun i hi => (K.cell (p := ⟨b, 3 + i, none⟩) hb h).trans (g.cs i hi)⟩
theorem StepsAt.pos {w : World} (s : StepsAt w) : 0 < w.heap.size := World.block_lt_of_cell? w _ (s 0 (by decide)).1
theorem StepsAt.keep {D : Nat → Prop} {w w' : World} (s : StepsAt w) (K : Keep D w w') (h : ¬ D 0) : StepsAt w' :=
  fun i hi => ⟨(K.cell (p := ⟨0, 2 * i, none⟩) s.pos h).trans (s i hi).1, (K.cell (p := ⟨0, 2 * i + 1, none⟩) s.pos h).trans (s i hi).2⟩
/-- costs as values -/
def fv (F : Int → Option (Int × Int)) : Int → Option Value := fun a => (F a).map fun c => .agg #[.int .i64 c.1, .int .i64 c.2]
theorem fv_some {F : Int → Option (Int × Int)} {a s d : Int} (h : F a = some (s, d)) : fv F a = some (.agg #[.int .i64 s, .int .i64 d]) := by unfold fv; rw [h]; rfl
theorem fv_none {F : Int → Option (Int × Int)} {a : Int} (h : F a = none) : fv F a = none := by unfold fv; rw [h]; rfl
theorem fv_put (F : Int → Option (Int × Int)) (a s d : Int) : putF (fv F) a (.agg #[.int .i64 s, .int .i64 d]) = fv (putH F a s d) := by
  funext i
  unfold putF fv putH
  by_cases h : i = a
  · rw [if_pos h, if_pos h]; rfl
  · rw [if_neg h, if_neg h]
theorem zero43 (w : World) : (zeroValue 65).run Tryz.prog w = .ok (.agg #[.int .i64 0, .int .i64 0]) w := by kernel_rfl
theorem wf_cell {W H c : Int} (w1 : 1 ≤ W) (w2 : W ≤ 16) (h1 : 1 ≤ H) (h2 : H ≤ 16) (h : inB W H c = true) : (Lit.int .i64 c).wf = true := by
  have hc : 0 ≤ c ∧ c < W * H := of_decide_eq_true h
  obtain ⟨k1, k2⟩ := wh_bd w1 w2 h1 h2
  exact WalkArith.wf_i64 (by omega)
theorem getD_app (l : List Nat) (x i : Nat) : (l ++ [x]).getD i 0 = if i < l.length then l.getD i 0 else if i = l.length then x else 0 := by
  simp only [List.getD_eq_getElem?_getD]
  by_cases h : i < l.length
  · rw [if_pos h, List.getElem?_append_left h]
  · rw [if_neg h, List.getElem?_append_right (by omega)]
    by_cases e : i = l.length
    · subst e; simp
    · rw [if_neg e, List.getElem?_eq_none (by simp; omega)]; rfl
theorem own_int {w : World} {base g cap : Nat} {l : List Nat} (h : w.ownsRow base 3 1 (.slice (some ⟨g, 0, none⟩) l.length cap) l.length (vals l)) (i : Nat) (hi : i < l.length) : w.cell? ⟨g, i, none⟩ = some (.int .i64 ((l.getD i 0 : Nat) : Int)) := by
  rw [h.cellAt i (by omega), getD_at _ _ hi]
  unfold vals
  rw [List.getElem?_map, List.getElem?_eq_getElem hi]
  rfl

end Go.Proofs.YtmnpplkjhnoglaaGreatDoor
