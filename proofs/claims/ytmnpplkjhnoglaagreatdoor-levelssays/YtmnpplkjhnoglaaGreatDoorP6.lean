/-
  Texts laid together: Aid, Cost, Rep.
-/
import Derived.Test.YtmnpplkjhnoglaaGreatDoorP5
import Derived.WalkKit
import Derived.WalkSpells
import Derived.WalkLawsBesides
import Derived.Deep.QuietTactic
import Derived.BigQuiet
import Derived.Test.YtmnpplkjhnoglaaGreatDoorRows
import Derived.RegionTactic
import Derived.BigRegion
import Derived.Laws.OwnMore
/-
  A region that draws its order, whose operations only read old memory and whose callees leave old memory alone, walked once in the order of the text: the class of worlds that have at most grown since the region began.
-/
namespace Go.Proofs.YtmnpplkjhnoglaaGreatDoor
open Go.RowKit

/-- a world that has at most grown since w -/
structure Since (w : World) where
  u : World
  h : Below w.heap.size w u

theorem since_ne (w : World) : Nonempty (Since w) := ⟨⟨w, Below.refl _ _⟩⟩

theorem Since.cell {w : World} (x : Since w) (b o : Nat) (hb : b < w.heap.size) : x.u.cell? ⟨b, o, none⟩ = w.cell? ⟨b, o, none⟩ := x.h.cell (p := ⟨b, o, none⟩) hb

theorem wp_region_since {P : Program} {id : Nat} {Q : Exit → Act → World → Prop} {a : Act} {w : World} {l : List Oper} (hm : P.follows .mixedOrders = true) (hB : Region.lexB .any l.toArray = true)
    (h : wpQuiet P l.toArray (fun w' => ∃ x : Since w, w' = x.u) (fun a' => ∀ w', (∃ x : Since w, w' = x.u) → Q .normal a' w') l a) : (Code.region id l.toArray true).wp P Q a w :=
  wp_region_quiet (C := fun w' => ∃ x : Since w, w' = x.u) hm hB ⟨⟨{ w with drawn := w.drawn + 1 }, (Below.refl _ w).drew⟩, rfl⟩ (by simpa using h)

theorem Calls.since_of {P : Program} {f : FuncId} {args : Array Value} {w : World} {x : Since w} {v : Value}
    (h : Calls P f args x.u fun e w' => e = .returned v ∧ Below x.u.heap.size x.u w') : Calls P f args x.u fun e w'' => e = .returned v ∧ ∃ y : Since w, w'' = y.u :=
  h.mono fun _ w' ⟨he, hb⟩ => ⟨he, ⟨w', x.h.trans (hb.mono x.h.size)⟩, rfl⟩

theorem Calls.since_same {P : Program} {f : FuncId} {args : Array Value} {w : World} {x : Since w} {v : Value}
    (h : Calls P f args x.u fun e w' => e = .returned v ∧ w' = x.u) : Calls P f args x.u fun e w'' => e = .returned v ∧ ∃ y : Since w, w'' = y.u :=
  h.mono fun _ _ ⟨he, hb⟩ => ⟨he, x, hb⟩

theorem bcell {W w1 : World} (hb : Below W.heap.size W w1) : (∀ b o, b < W.heap.size → w1.cell? ⟨b, o, none⟩ = W.cell? ⟨b, o, none⟩) ∧ (∀ b o, b < W.heap.size → w1.frozen? ⟨b, o, none⟩ = W.frozen? ⟨b, o, none⟩) :=
  ⟨fun b o h => hb.cell (p := ⟨b, o, none⟩) h, fun b o h => hb.frozen (p := ⟨b, o, none⟩) h⟩

end Go.Proofs.YtmnpplkjhnoglaaGreatDoor
/-
  What each function of package cost and of its reference does to the world, for every cost within bounds.
-/
namespace Go.Proofs.YtmnpplkjhnoglaaGreatDoor
open Go.RowKit

/-- a cost that may be handed to Compare -/
def okC (s d : Int) : Prop := 0 ≤ s ∧ s ≤ 8388608 ∧ 0 ≤ d ∧ d ≤ 8388608

set_option maxHeartbeats 400000 in
theorem add_any (s d t u : Int) (w : World) (h : okC s d) (k : okC t u) :
    Calls Tryz.prog 106 #[.agg #[.int .i64 s, .int .i64 d], .agg #[.int .i64 t, .int .i64 u]] w fun e w' => e = .returned (.agg #[.int .i64 (s + t), .int .i64 (d + u)]) ∧ Below w.heap.size w w' := by
  obtain ⟨h1, h2, h3, h4⟩ := h
  obtain ⟨k1, k2, k3, k4⟩ := k
  go_enter Tryz.func106, Tryz.ntmps106
  go_wp2
  exact bodyPost_ret (v := .agg #[.int .i64 (s + t), .int .i64 (d + u)]) (by simp [results, Tryz.results106, go_sem]) rfl ⟨rfl, ((((Below.refl _ _).alloc (Nat.le_refl _) _).alloc (by simp) _).alloc (by simp; omega) _)⟩

theorem cmpC_val' (s d t u : Int) (h : okC s d) (k : okC t u) : cmpC s d t u = cmpI (val s d) (val t u) := by
  obtain ⟨h1, h2, h3, h4⟩ := h
  obtain ⟨k1, k2, k3, k4⟩ := k
  exact cmpC_val s d t u (by omega) (by omega)

def ltB (s d t u : Int) : Bool := decide (cmpC s d t u < 0)
end Go.Proofs.YtmnpplkjhnoglaaGreatDoor
/-
  How a heap lies in memory, and what laying an item, and changing two, does.
-/
namespace Go.Proofs.YtmnpplkjhnoglaaGreatDoor
open Go.RowKit

/-- a row of items -/
def Row (w : World) (v : Value) (n : Nat) (it : Nat → Item) : Prop :=
  ∃ xs, w.ownsRow 0 167 3 v n xs ∧ ∀ i, i < n → xs[i * 3]? = some (.int .i64 (it i).id) ∧ xs[i * 3 + 1]? = some (.int .i64 (it i).s) ∧ xs[i * 3 + 2]? = some (.int .i64 (it i).d)

theorem Row.keep {F : Nat → Prop} {w w' : World} {v : Value} {n : Nat} {it : Nat → Item} (h : Row w v n it) (hk : Keep F w w') (hn : ∀ g, v.ownBlock = some g → ¬ F g) : Row w' v n it := by
  obtain ⟨xs, ho, hx⟩ := h
  refine ⟨xs, ⟨ho.1, ?_⟩, hx⟩
  rcases ho.2 with hl | ⟨g, cap, cur, rfl, hb, hgg, rest⟩
  · exact .inl hl
  · refine .inr ⟨g, cap, cur, rfl, hb, ?_, rest⟩
    rw [hk.block g (Array.getElem?_eq_some_iff.1 hgg).1 (hn g rfl)]
    exact hgg

theorem Row.pos {w : World} {v : Value} {n : Nat} {it : Nat → Item} (h : Row w v n it) (hn : 0 < n) : ∃ g cap, v = .slice (some ⟨g, 0, none⟩) n cap ∧ n ≤ cap ∧ cap ≤ maxLen ∧ g < w.heap.size := by
  obtain ⟨xs, ho, hx⟩ := h
  rcases ho.2 with ⟨_, h0⟩ | ⟨g, cap, cur, rfl, hb, hgg, h1, h2, _⟩
  · omega
  · exact ⟨g, cap, rfl, h1, h2, (Array.getElem?_eq_some_iff.1 hgg).1⟩

theorem Row.cells {w : World} {g n cap : Nat} {it : Nat → Item} (h : Row w (.slice (some ⟨g, 0, none⟩) n cap) n it) {i : Nat} (hi : i < n) :
    w.cell? ⟨g, i * 3, none⟩ = some (.int .i64 (it i).id) ∧ w.cell? ⟨g, i * 3 + 1, none⟩ = some (.int .i64 (it i).s) ∧ w.cell? ⟨g, i * 3 + 2, none⟩ = some (.int .i64 (it i).d) := by
  obtain ⟨xs, ho, hx⟩ := h
  obtain ⟨h1, h2, h3⟩ := hx i hi
  exact ⟨(ho.cellAt _ (by omega)).trans h1, (ho.cellAt _ (by omega)).trans h2, (ho.cellAt _ (by omega)).trans h3⟩

theorem Row.free {w : World} {g n cap : Nat} {it : Nat → Item} (h : Row w (.slice (some ⟨g, 0, none⟩) n cap) n it) (j : Nat) : w.frozen? ⟨g, j, none⟩ = false := by
  obtain ⟨xs, ho, hx⟩ := h
  exact ho.frozenAt j

/-- one item written -/
theorem Row.set {w : World} {g n cap : Nat} {it : Nat → Item} (h : Row w (.slice (some ⟨g, 0, none⟩) n cap) n it) {i : Nat} (hi : i < n) (x : Item) :
    Row (((w.setCell ⟨g, i * 3, none⟩ (.int .i64 x.id)).setCell ⟨g, i * 3 + 1, none⟩ (.int .i64 x.s)).setCell ⟨g, i * 3 + 2, none⟩ (.int .i64 x.d)) (.slice (some ⟨g, 0, none⟩) n cap) n (updI it i x) := by
  obtain ⟨xs, ho, hx⟩ := h
  have h1 := (ho.stored (i * 3) (.int .i64 x.id)).1
  have h2 := (h1.stored (i * 3 + 1) (.int .i64 x.s)).1
  have h3 := (h2.stored (i * 3 + 2) (.int .i64 x.d)).1
  refine ⟨_, h3, fun k hk => ?_⟩
  have hl : xs.length = n * 3 := ho.1
  by_cases e : k = i
  · subst e
    rw [updI_i]
    simp [List.getElem?_set, hl]
    omega
  · rw [updI_k it x e]
    obtain ⟨a1, a2, a3⟩ := hx k hk
    refine ⟨?_, ?_, ?_⟩
    · rw [List.getElem?_set_ne (by omega), List.getElem?_set_ne (by omega), List.getElem?_set_ne (by omega)]; exact a1
    · rw [List.getElem?_set_ne (by omega), List.getElem?_set_ne (by omega), List.getElem?_set_ne (by omega)]; exact a2
    · rw [List.getElem?_set_ne (by omega), List.getElem?_set_ne (by omega), List.getElem?_set_ne (by omega)]; exact a3

/-- a heap in block b, where each stands in block mb, the row v -/
structure Rep (w : World) (b mb : Nat) (v : Value) (n : Nat) (it : Nat → Item) (f : Int → Option Value) (m : Nat) : Prop where
  c0 : w.cell? ⟨b, 0, none⟩ = some v
  c1 : w.cell? ⟨b, 1, none⟩ = some (.map (some mb))
  f0 : w.frozen? ⟨b, 0, none⟩ = false
  row : Row w v n it
  map : MapF Tryz.prog 3 w mb f m
  nb : v.ownBlock ≠ some b

theorem law3 : Tryz.prog.underlying 3 = some (.int .i64) := Tryz.underlying3
theorem Tryz.under51 : Tryz.prog.underlying 46 = some (.map 3 3) := by kernel_rfl
theorem zero3 (w : World) : (zeroValue 3).run Tryz.prog w = .ok (.int .i64 0) w := by kernel_rfl

theorem Rep.blocks {w : World} {b mb n m : Nat} {v : Value} {it : Nat → Item} {f : Int → Option Value} (R : Rep w b mb v n it f m) : b < w.heap.size ∧ mb < w.heap.size ∧ b ≠ mb ∧ ∀ g, v.ownBlock = some g → g < w.heap.size ∧ g ≠ b ∧ g ≠ mb := by
  have hb : b < w.heap.size := World.block_lt_of_cell? w _ R.c0
  refine ⟨hb, R.map.lt, ?_, fun g hg => ⟨?_, ?_, ?_⟩⟩
  · intro e
    have h := R.map.cell 0
    rw [← e, R.c0] at h
    cases h
  · obtain ⟨xs, ho, _⟩ := R.row
    exact (ho.lt g hg).2
  · intro e; exact R.nb (by rw [hg, e])
  · intro e
    obtain ⟨xs, ho, _⟩ := R.row
    obtain ⟨D, ⟨es, clock, h1, _⟩, _⟩ := R.map
    rcases ho.2 with ⟨rfl, _⟩ | ⟨g', cap, cur, rfl, _, hgg, _⟩
    · cases hg
    · simp only [Value.ownBlock, Option.some.injEq] at hg
      rw [hg, e, h1] at hgg
      cases hgg

theorem Rep.keep {F : Nat → Prop} {w w' : World} {b mb n m : Nat} {v : Value} {it : Nat → Item} {f : Int → Option Value} (R : Rep w b mb v n it f m) (hk : Keep F w w') (h1 : ¬ F b) (h2 : ¬ F mb) (h3 : ∀ g, v.ownBlock = some g → ¬ F g) : Rep w' b mb v n it f m := by
  have hb := R.blocks.1
  exact ⟨(hk.cell (p := ⟨b, 0, none⟩) hb h1).trans R.c0, (hk.cell (p := ⟨b, 1, none⟩) hb h1).trans R.c1, (hk.frozen (p := ⟨b, 0, none⟩) hb h1).trans R.f0, R.row.keep hk h3, R.map.keep hk h2, R.nb⟩

theorem Rep.below {w w' : World} {b mb n m : Nat} {v : Value} {it : Nat → Item} {f : Int → Option Value} (R : Rep w b mb v n it f m) (hb : Below w.heap.size w w') : Rep w' b mb v n it f m :=
  R.keep (F := fun _ => False) (Keep.of_below hb) id id (fun _ _ => id)

/-- a map's store: what stands elsewhere stays -/
theorem turned_keep {w w' : World} {b : Nat} (h : w.mapTurned w' b) : Keep (fun k => k = b) w w' :=
  (Keep.refl _ w).grown h.grown (fun k hk _ => by cases hk; rfl)

set_option maxHeartbeats 1000000 in
theorem put_any {b mb g cap n m : Nat} {it : Nat → Item} {f : Int → Option Value} (i : Nat) (a s d : Int) (w : World) (R : Rep w b mb (.slice (some ⟨g, 0, none⟩) n cap) n it f m) (hi : i < n) (hm : m ≤ 1000000) (ha : (Lit.int .i64 a).wf = true) :
    Calls Tryz.prog 104 #[.pointer (some ⟨b, 0, none⟩), .int .i64 i, .agg #[.int .i64 a, .int .i64 s, .int .i64 d]] w fun e w' => e = .returned (.tuple #[]) ∧ Rep w' b mb (.slice (some ⟨g, 0, none⟩) n cap) n (updI it i ⟨a, s, d⟩) (putF f a (.int .i64 i)) (if (f a).isSome then m else m + 1) ∧ Keep (fun k => k = g ∨ k = mb) w w' := by
  obtain ⟨hb, hmb, hbm, hgs⟩ := R.blocks
  obtain ⟨hg, hgb, hgm⟩ := hgs g rfl
  obtain ⟨c0, c1, f0, row, map, nb⟩ := R
  obtain ⟨q1, q2, q3⟩ := row.cells hi
  have r1 := row.free (i * 3)
  have r2 := row.free (i * 3 + 1)
  have r3 := row.free (i * 3 + 2)
  have hj : (i : Int) < (n : Int) := by omega
  have HW : ∃ W1 : World, W1 = ((((w.setCell ⟨g, i * 3, none⟩ (.int .i64 a)).setCell ⟨g, i * 3 + 1, none⟩ (.int .i64 s)).setCell ⟨g, i * 3 + 2, none⟩ (.int .i64 d)).alloc (.cells #[.int .i64 a, .int .i64 s, .int .i64 d] 167)).drew ∧
      Keep (fun k => k = g) w W1 ∧ Row W1 (.slice (some ⟨g, 0, none⟩) n cap) n (updI it i ⟨a, s, d⟩) ∧ W1.cell? ⟨w.heap.size, 0, none⟩ = some (.int .i64 a) ∧ W1.heap.size = w.heap.size + 1 := by
    have K0 : Keep (fun k => k = g) w (((w.setCell ⟨g, i * 3, none⟩ (.int .i64 a)).setCell ⟨g, i * 3 + 1, none⟩ (.int .i64 s)).setCell ⟨g, i * 3 + 2, none⟩ (.int .i64 d)) :=
      (((Keep.refl (fun k => k = g) w).setCell (p := ⟨g, i * 3, none⟩) (fun _ => rfl) _).setCell (p := ⟨g, i * 3 + 1, none⟩) (fun _ => rfl) _).setCell (p := ⟨g, i * 3 + 2, none⟩) (fun _ => rfl) _
    refine ⟨_, rfl, (K0.alloc _).drew, ?_, ?_, ?_⟩
    · exact (row.set hi ⟨a, s, d⟩).keep (F := fun _ => False) ((Keep.refl _ _).alloc _).drew (fun _ _ => id)
    · exact World.cell?_alloc_at #[.int .i64 a, .int .i64 s, .int .i64 d] 167 w.heap.size 0 (by simp)
    · simp
  obtain ⟨W1, eW, K1, row1, q0, hs1⟩ := HW
  have d1 : W1.cell? ⟨b, 1, none⟩ = some (.map (some mb)) := (K1.cell (p := ⟨b, 1, none⟩) hb (fun e => hgb e.symm)).trans c1
  have map1 : MapF Tryz.prog 3 W1.drew mb f m := (map.keep K1 (fun e => hgm e.symm)).kept rfl
  obtain ⟨w2, hrun, M2, T2⟩ := map1.store law3 Tryz.under51 (by unfold maxLen; omega) ha (.int .i64 i)
  have K2 := turned_keep T2
  have RR : Rep w2 b mb (.slice (some ⟨g, 0, none⟩) n cap) n (updI it i ⟨a, s, d⟩) (putF f a (.int .i64 i)) (if (f a).isSome then m else m + 1) := by
    refine ⟨?_, ?_, ?_, (row1.keep (F := fun _ => False) (Keep.refl _ W1).drew (fun _ _ => id)).keep K2 (fun x hx => ?_), M2, nb⟩
    · exact (K2.cell (p := ⟨b, 0, none⟩) (by show b < W1.heap.size; omega) hbm).trans ((K1.cell (p := ⟨b, 0, none⟩) hb (fun e => hgb e.symm)).trans c0)
    · exact (K2.cell (p := ⟨b, 1, none⟩) (by show b < W1.heap.size; omega) hbm).trans d1
    · exact (K2.frozen (p := ⟨b, 0, none⟩) (by show b < W1.heap.size; omega) hbm).trans ((K1.frozen (p := ⟨b, 0, none⟩) hb (fun e => hgb e.symm)).trans f0)
    · simp only [Value.ownBlock, Option.some.injEq] at hx
      rw [← hx]; exact hgm
  have KK : Keep (fun k => k = g ∨ k = mb) w w2 := (K1.mono (fun _ _ h => Or.inl h)).trans ((Keep.refl (fun k => k = mb) W1).drew.trans K2 (fun _ _ h => h)) (fun _ _ h => Or.inr h)
  clear K1 row1 map1 M2 T2 K2 map row nb
  go_enter Tryz.func104, Tryz.ntmps104
  go_wp2
  go_region
  go_wp2
  rw [← eW]
  clear eW q1 q2 q3 r1 r2 r3 c0 c1 f0
  go_region
  go_end0
  exact ⟨rfl, RR, KK⟩
end Go.Proofs.YtmnpplkjhnoglaaGreatDoor
