/-
  Texts laid together: RMoves, Dirs, AsAid, Rep.
-/
import Derived.Test.YtfhicijgpdpfpaaDoorP4
import Derived.Deep.LoopGhost
import Derived.Deep.Light
import Derived.Test.YtfhicijgpdpfpaaDoorRows
import Derived.RegionTactic
import Derived.BigRegion
import Derived.Laws.OwnMore
/-
  The reference's moves from a cell; lists of directions as rows.
-/
namespace Go.Proofs.YtfhicijgpdpfpaaDoor
open Go.RowKit

theorem rmay_v {b : Nat} {W H V x y : Int} {bl : Nat → Bool} {d : Nat} {r : Bool} (hr : mayB W H bl x y d = r) (w : World) (g : RefAt w b W H V bl) (hd : d < 8) (x1 : -100 ≤ x) (x2 : x ≤ 100) (y1 : -100 ≤ y) (y2 : y ≤ 100) :
    Calls Tryd.prog 57 #[.pointer (some ⟨b, 0, none⟩), .int .i64 x, .int .i64 y, .int .i64 d] w fun e w' => e = .returned (.bool r) ∧ ∃ m, w' = w.drewN m := hr ▸ rmay_any x y d w g hd x1 x2 y1 y2

set_option maxHeartbeats 1600000 in
set_option maxRecDepth 1000000 in
theorem rmoves_in {b : Nat} {W H V : Int} {bl : Nat → Bool} (c : Int) (w : World) (g : RefAt w b W H V bl) (hr : inB W H c = true) (hb : b < w.heap.size) :
    Calls Tryd.prog 24 #[.pointer (some ⟨b, 0, none⟩), .int .i64 c] w fun e w' => ∃ v, e = .returned v ∧
      w'.ownsRow w.heap.size 3 1 v (mvs W H bl (c % W) (c / W) 8).length (vals (mvs W H bl (c % W) (c / W) 8)) ∧ Below w.heap.size w w' := by
  obtain ⟨i0, hi, hz0, hz1, hz2⟩ := info_parts Tryd.info3
  have hc : 0 ≤ c ∧ c < W * H := of_decide_eq_true hr
  obtain ⟨k1, k2⟩ := wh_bd g.w1 g.w2 g.h1 g.h2
  have gw1 := g.w1
  have gw := g.w2
  have gh := g.h2
  have x1 : 0 ≤ c % W := Int.emod_nonneg _ (by omega)
  have x2 : c % W < W := Int.emod_lt_of_pos _ (by omega)
  have y1 : 0 ≤ c / W := Int.ediv_nonneg hc.1 (by omega)
  have y3 : c / W < H := Int.ediv_lt_of_lt_mul (by omega) (by rw [Int.mul_comm]; exact hc.2)
  obtain ⟨q1, q2⟩ := hc
  go_enter Tryd.func24, Tryd.ntmps24
  go_wp2
  go_loopw [5, 6] (fun v i wr => ∃ k : Nat, k ≤ 8 ∧ i = .int .i64 k ∧ wr.ownsRow w.heap.size 3 1 v (mvs W H bl (c % W) (c / W) k).length (vals (mvs W H bl (c % W) (c / W) k)) ∧ Below w.heap.size w wr)
    (fun _ i _ => 8 - (intOf i).toNat)
  case atStart => exact ⟨0, Nat.zero_le _, rfl, World.ownsRow_nil _ _ _ _, Below.refl _ _⟩
  case round =>
    obtain ⟨k, hk, rfl, hown, hnx⟩ := hrel
    have hl := mvs_len W H bl (c % W) (c / W) k
    have gr := g.below hnx hb
    have c0 := gr.c0
    have hsz := hnx.size
    by_cases hlt : k < 8
    · have hms := mvs_succ W H bl (c % W) (c / W) k
      cases hM : mayB W H bl (c % W) (c / W) k with
      | false =>
        rw [hM] at hms
        have h0 : mvs W H bl (c % W) (c / W) (k + 1) = mvs W H bl (c % W) (c / W) k := by simpa using hms
        have HS : Hid (mvs W H bl (c % W) (c / W) (k + 1) = mvs W H bl (c % W) (c / W) k) := h0
        clear h0 hms
        go_wp2
        go_quiet ((go_at_call 57; exact Calls.quiet_of (rmay_v hM _ (gr.drewN _) hlt (by omega) (by omega) (by omega) (by omega))))
        go_wp2
        go_roundw
        case rel => exact ⟨k + 1, by omega, by go_num, by rw [HS.out]; exact hown, below_drewN hnx _⟩
        case measure => simp [intOf]; omega
      | true =>
        rw [hM] at hms
        have h0 : mvs W H bl (c % W) (c / W) (k + 1) = mvs W H bl (c % W) (c / W) k ++ [k] := by simpa using hms
        have HS : Hid (mvs W H bl (c % W) (c / W) (k + 1) = mvs W H bl (c % W) (c / W) k ++ [k]) := h0
        clear h0 hms
        go_wp2
        go_quiet ((go_at_call 57; exact Calls.quiet_of (rmay_v hM _ (gr.drewN _) hlt (by omega) (by omega) (by omega) (by omega))))
        go_wp2_with (at_builtin; refine wpList_append_own _ rfl _ _ 22 rfl w.heap.size 3 i0 (.int .i64 0) 1 8 Tryd.underlying22 hi hz0 hz1 hz2 rfl (by decide) _ _ _ rfl (World.ownsRow.alloc hown _) ⟨wr.heap.size, 0, none⟩ 1 1 [.int .i64 k] rfl rfl ?c1 ?c2 ?c3 ?c4 ?c5 ?_)
        case c1 =>
          intro j u hj
          match j, hj with
          | 0, hj =>
            simp at hj; subst hj; simp only [Addr.add]
            exact World.cell?_alloc_at (w := wr.drewN nq) #[.int .i64 k] 3 wr.heap.size 0 rfl
        case c2 => intro u hu; simp at hu; subst hu; rfl
        case c3 => unfold maxLen; omega
        case c4 => omega
        case c5 => simp; omega
        intro v' w1 hown' hgrow _
        have hbase := fun q hq => (hown.lt q hq).1
        have B1 : Below w.heap.size w w1 := ((below_drewN hnx nq).alloc hsz _).grown hgrow (by simp; omega) hbase
        have O1 : w1.ownsRow w.heap.size 3 1 v' (mvs W H bl (c % W) (c / W) (k + 1)).length (vals (mvs W H bl (c % W) (c / W) (k + 1))) := by
          rw [HS.out]
          simpa [vals] using hown'
        clear hown' hgrow hown hnx gr c0
        go_wp2
        go_roundw
        case rel => exact ⟨k + 1, by omega, by go_num, O1, B1⟩
        case measure => simp [intOf]; omega
    · have : k = 8 := by omega
      subst this
      go_wp2
      go_ret
      exact ⟨_, rfl, hown, hnx⟩
end Go.Proofs.YtfhicijgpdpfpaaDoor
/-
  Rows of directions.
-/
namespace Go.Proofs.YtfhicijgpdpfpaaDoor
open Go.RowKit

theorem OldRow.below {w w' : World} {A : Option Addr} {n : Nat} {xs : Nat → Int} (h : OldRow w A n xs) (hb : Below w.heap.size w w') : OldRow w' A n xs := fun i hi => by
  obtain ⟨b, o, e, hlt, hc⟩ := h i hi
  exact ⟨b, o, e, Nat.lt_of_lt_of_le hlt hb.size, (hb.cell (p := ⟨b, o + i, none⟩) hlt).trans hc⟩

theorem OldRow.drewN {w : World} {A : Option Addr} {n : Nat} {xs : Nat → Int} (h : OldRow w A n xs) (m : Nat) : OldRow (w.drewN m) A n xs := h

/-- a list of directions as a row -/
theorem row_of {w : World} {base : Nat} {v : Value} {l : List Nat} (h : w.ownsRow base 3 1 v l.length (vals l)) : ∃ A cap, v = .slice A l.length cap ∧ OldRow w A l.length (fun i => (l.getD i 0 : Nat)) := by
  rcases h.2 with ⟨hv, h0⟩ | ⟨g, cap, cur, hv, hb, hg, _, _, hsz, htk⟩
  · refine ⟨none, 0, by rw [h0]; exact hv, fun i hi => absurd hi (by omega)⟩
  · refine ⟨_, cap, hv, fun i hi => ⟨g, 0, rfl, (Array.getElem?_eq_some_iff.1 hg).1, ?_⟩⟩
    subst hv
    have := h.cellAt i (by omega)
    rw [Nat.zero_add, this]
    rw [List.getElem?_map, List.getElem?_eq_getElem hi]
    show _ = some (Value.int .i64 ((l.getD i 0 : Nat) : Int))
    rw [getD_at _ _ hi]
    rfl

theorem Calls.quiet_off {P : Program} {f : FuncId} {args : Array Value} {w : World} {a n : Nat} {v : Value}
    (h : Calls P f args (w.drewN (a + n)) fun e w' => e = .returned v ∧ ∃ m, w' = (w.drewN (a + n)).drewN m) : Calls P f args (w.drewN (a + n)) fun e w'' => e = .returned v ∧ ∃ m, w'' = w.drewN (a + m) :=
  h.mono fun _ _ ⟨he, m, hm⟩ => ⟨he, n + m, by rw [hm, World.drewN_drewN, Nat.add_assoc]⟩

/-- the directions from a cell: a short rising list, each below 8, each with a way back -/
structure DirsOf (W H : Int) (bl : Nat → Bool) (c : Int) (l : List Nat) : Prop where
  eq : mvs W H bl (c % W) (c / W) 8 = l
  len : l.length ≤ 8
  lt : ∀ i, i < l.length → l.getD i 0 < 8
  rise : ∀ i, 0 < i → i < l.length → l.getD (i - 1) 0 < l.getD i 0
  back : ∀ i, i < l.length → inB W H (c + (stepY (l.getD i 0) * W + stepX (l.getD i 0))) = true ∧
    ∀ l', mvs W H bl ((c + (stepY (l.getD i 0) * W + stepX (l.getD i 0))) % W) ((c + (stepY (l.getD i 0) * W + stepX (l.getD i 0))) / W) 8 = l' → ∃ j, j < l'.length ∧ l'.getD j 0 = opp (l.getD i 0)

theorem dirsOf {W H : Int} (bl : Nat → Bool) (c : Int) (w1 : 1 ≤ W) : ∃ l, DirsOf W H bl c l :=
  ⟨_, rfl, mvs_len _ _ _ _ _ _, fun _ hi => (mvs_at hi).1, fun _ h0 hi => mvs_rise h0 hi, fun _ hi => ⟨(back_facts w1 (mvs_at hi).1 (mvs_at hi).2).1, fun _ e => e ▸ (back_facts w1 (mvs_at hi).1 (mvs_at hi).2).2⟩⟩

theorem moves_v {b : Nat} {W H V c : Int} {bl : Nat → Bool} {l : List Nat} (hl : DirsOf W H bl c l) (w : World) (g : GridAt w b W H V bl) (s : StepsAt w) (hr : inB W H c = true) (hb : b < w.heap.size) :
    Calls Tryd.prog 96 #[.pointer (some ⟨b, 0, none⟩), .int .i64 c] w fun e w' => ∃ A cap, e = .returned (.tuple #[.slice A l.length cap, .nilIface]) ∧ OldRow w' A l.length (fun i => (l.getD i 0 : Nat)) ∧ Below w.heap.size w w' :=
  (moves_in c w g s hr hb).mono fun e w' ⟨v, he, hown, hbl⟩ => by
    rw [hl.eq] at hown
    obtain ⟨A, cap, rfl, hrow⟩ := row_of hown
    exact ⟨A, cap, he, hrow, hbl⟩

end Go.Proofs.YtfhicijgpdpfpaaDoor
/-
  Small facts for the walk of 'asGrid'.
-/
namespace Go.Proofs.YtfhicijgpdpfpaaDoor
open Go.RowKit

theorem Calls.quiet_off_same {P : Program} {f : FuncId} {args : Array Value} {w : World} {a n : Nat} {v : Value}
    (h : Calls P f args (w.drewN (a + n)) fun e w' => e = .returned v ∧ w' = w.drewN (a + n)) : Calls P f args (w.drewN (a + n)) fun e w'' => e = .returned v ∧ ∃ m, w'' = w.drewN (a + m) :=
  h.mono fun _ _ ⟨he, hm⟩ => ⟨he, n, hm⟩

/-- two rows of the same numbers -/
theorem sameRows {w : World} {A B : Option Addr} {n ca cb : Nat} {xs : Nat → Int} (hn : n ≤ 1000000) (hA : OldRow w A n xs) (hB : OldRow w B n xs) :
    Calls Tryd.prog 32 #[.slice A n ca, .slice B n cb] w fun e w' => e = .returned (.bool true) ∧ ∃ m, w' = w.drewN m := by
  by_cases h0 : n = 0
  · subst h0
    exact sameNumbers_zero A B ca cb w
  · obtain ⟨b, o, rfl, _, _⟩ := hA 0 (by omega)
    obtain ⟨b2, o2, rfl, _, _⟩ := hB 0 (by omega)
    refine sameNumbers_pos b o b2 o2 n ca cb xs w hn (fun i hi => ?_) (fun i hi => ?_)
    · obtain ⟨b', o', e, _, hc⟩ := hA i hi
      cases e
      exact hc
    · obtain ⟨b', o', e, _, hc⟩ := hB i hi
      cases e
      exact hc

theorem rmoves_v {b : Nat} {W H V c : Int} {bl : Nat → Bool} {l : List Nat} (hl : DirsOf W H bl c l) (w : World) (g : RefAt w b W H V bl) (hr : inB W H c = true) (hb : b < w.heap.size) :
    Calls Tryd.prog 24 #[.pointer (some ⟨b, 0, none⟩), .int .i64 c] w fun e w' => ∃ A cap, e = .returned (.slice A l.length cap) ∧ OldRow w' A l.length (fun i => (l.getD i 0 : Nat)) ∧ Below w.heap.size w w' :=
  (rmoves_in c w g hr hb).mono fun e w' ⟨v, he, hown, hbl⟩ => by
    rw [hl.eq] at hown
    obtain ⟨A, cap, rfl, hrow⟩ := row_of hown
    exact ⟨A, cap, he, hrow, hbl⟩

theorem rto_v {b : Nat} {W H V c r : Int} {bl : Nat → Bool} {d : Nat} (hr : c + (stepY d * W + stepX d) = r) (w : World) (g : RefAt w b W H V bl) (hd : d < 8) (c1 : -1000 ≤ c) (c2 : c ≤ 1000) :
    Calls Tryd.prog 48 #[.pointer (some ⟨b, 0, none⟩), .int .i64 c, .int .i64 d] w fun e w' => e = .returned (.int .i64 r) ∧ w' = w := by
  have := rto_any c d w g hd c1 c2
  rw [show c + stepX d + stepY d * W = r from by omega] at this
  exact this
theorem to_v {b : Nat} {W H V c r : Int} {bl : Nat → Bool} {d : Nat} (hr : c + (stepY d * W + stepX d) = r) (w : World) (g : GridAt w b W H V bl) (s : StepsAt w) (hd : d < 8) (c1 : -1000 ≤ c) (c2 : c ≤ 1000) :
    Calls Tryd.prog 25 #[.pointer (some ⟨b, 0, none⟩), .int .i64 c, .int .i64 d] w fun e w' => e = .returned (.int .i64 r) ∧ ∃ m, w' = w.drewN m := hr ▸ to_any c d w g s hd c1 c2

/-- both grids alike -/
structure Pair (w : World) (g m : Nat) (W H V : Int) (bl : Nat → Bool) : Prop where
  ga : GridAt w g W H V bl
  ra : RefAt w m W H V bl
  gl : g < w.heap.size
  ml : m < w.heap.size
  st : StepsAt w
  z : 0 < w.heap.size
theorem Pair.below {w w' : World} {g m : Nat} {W H V : Int} {bl : Nat → Bool} (h : Pair w g m W H V bl) (hb : Below w.heap.size w w') : Pair w' g m W H V bl :=
  ⟨h.ga.below hb h.gl, h.ra.below hb h.ml, Nat.lt_of_lt_of_le h.gl hb.size, Nat.lt_of_lt_of_le h.ml hb.size, h.st.below hb h.z, Nat.lt_of_lt_of_le h.z hb.size⟩
theorem Pair.drewN {w : World} {g m : Nat} {W H V : Int} {bl : Nat → Bool} (h : Pair w g m W H V bl) (k : Nat) : Pair (w.drewN k) g m W H V bl := ⟨h.ga.drewN k, h.ra.drewN k, h.gl, h.ml, h.st, h.z⟩
end Go.Proofs.YtfhicijgpdpfpaaDoor
/-
  How a heap lies in memory, and what laying an item, and changing two, does.
-/
namespace Go.Proofs.YtfhicijgpdpfpaaDoor
open Go.RowKit

/-- a row of items -/
def Row (w : World) (v : Value) (n : Nat) (it : Nat → Item) : Prop :=
  ∃ xs, w.ownsRow 0 135 3 v n xs ∧ ∀ i, i < n → xs[i * 3]? = some (.int .i64 (it i).id) ∧ xs[i * 3 + 1]? = some (.int .i64 (it i).s) ∧ xs[i * 3 + 2]? = some (.int .i64 (it i).d)

theorem Row.keep {F : Nat → Prop} {w w' : World} {v : Value} {n : Nat} {it : Nat → Item} (h : Row w v n it) (hk : Keep F w w') (hn : ∀ g, v.ownBlock = some g → ¬ F g) : Row w' v n it := by
  obtain ⟨xs, ho, hx⟩ := h
  refine ⟨xs, ⟨ho.1, ?_⟩, hx⟩
  rcases ho.2 with hl | ⟨g, cap, cur, rfl, hb, hgg, rest⟩
  · exact .inl hl
  · refine .inr ⟨g, cap, cur, rfl, hb, ?_, rest⟩
    rw [hk.block g (Array.getElem?_eq_some_iff.1 hgg).1 (hn g rfl)]
    exact hgg

theorem Row.pos {w : World} {v : Value} {n : Nat} {it : Nat → Item} (h : Row w v n it) (hn : 0 < n) : ∃ g cap, v = .slice (some ⟨g, 0, none⟩) n cap ∧ n ≤ cap ∧ cap ≤ maxLen ∧ g < w.heap.size := by
  obtain ⟨xs, ho, hx⟩ := h
  rcases ho.2 with ⟨_, h0⟩ | ⟨g, cap, cur, rfl, hb, hgg, h1, h2, _⟩
  · omega
  · exact ⟨g, cap, rfl, h1, h2, (Array.getElem?_eq_some_iff.1 hgg).1⟩

theorem Row.cells {w : World} {g n cap : Nat} {it : Nat → Item} (h : Row w (.slice (some ⟨g, 0, none⟩) n cap) n it) {i : Nat} (hi : i < n) :
    w.cell? ⟨g, i * 3, none⟩ = some (.int .i64 (it i).id) ∧ w.cell? ⟨g, i * 3 + 1, none⟩ = some (.int .i64 (it i).s) ∧ w.cell? ⟨g, i * 3 + 2, none⟩ = some (.int .i64 (it i).d) := by
  obtain ⟨xs, ho, hx⟩ := h
  obtain ⟨h1, h2, h3⟩ := hx i hi
  exact ⟨(ho.cellAt _ (by omega)).trans h1, (ho.cellAt _ (by omega)).trans h2, (ho.cellAt _ (by omega)).trans h3⟩

theorem Row.free {w : World} {g n cap : Nat} {it : Nat → Item} (h : Row w (.slice (some ⟨g, 0, none⟩) n cap) n it) (j : Nat) : w.frozen? ⟨g, j, none⟩ = false := by
  obtain ⟨xs, ho, hx⟩ := h
  exact ho.frozenAt j

/-- one item written -/
theorem Row.set {w : World} {g n cap : Nat} {it : Nat → Item} (h : Row w (.slice (some ⟨g, 0, none⟩) n cap) n it) {i : Nat} (hi : i < n) (x : Item) :
    Row (((w.setCell ⟨g, i * 3, none⟩ (.int .i64 x.id)).setCell ⟨g, i * 3 + 1, none⟩ (.int .i64 x.s)).setCell ⟨g, i * 3 + 2, none⟩ (.int .i64 x.d)) (.slice (some ⟨g, 0, none⟩) n cap) n (updI it i x) := by
  obtain ⟨xs, ho, hx⟩ := h
  have h1 := (ho.stored (i * 3) (.int .i64 x.id)).1
  have h2 := (h1.stored (i * 3 + 1) (.int .i64 x.s)).1
  have h3 := (h2.stored (i * 3 + 2) (.int .i64 x.d)).1
  refine ⟨_, h3, fun k hk => ?_⟩
  have hl : xs.length = n * 3 := ho.1
  by_cases e : k = i
  · subst e
    rw [updI_i]
    simp [List.getElem?_set, hl]
    omega
  · rw [updI_k it x e]
    obtain ⟨a1, a2, a3⟩ := hx k hk
    refine ⟨?_, ?_, ?_⟩
    · rw [List.getElem?_set_ne (by omega), List.getElem?_set_ne (by omega), List.getElem?_set_ne (by omega)]; exact a1
    · rw [List.getElem?_set_ne (by omega), List.getElem?_set_ne (by omega), List.getElem?_set_ne (by omega)]; exact a2
    · rw [List.getElem?_set_ne (by omega), List.getElem?_set_ne (by omega), List.getElem?_set_ne (by omega)]; exact a3

/-- a heap in block b, where each stands in block mb, the row v -/
structure Rep (w : World) (b mb : Nat) (v : Value) (n : Nat) (it : Nat → Item) (f : Int → Option Value) (m : Nat) : Prop where
  c0 : w.cell? ⟨b, 0, none⟩ = some v
  c1 : w.cell? ⟨b, 1, none⟩ = some (.map (some mb))
  f0 : w.frozen? ⟨b, 0, none⟩ = false
  row : Row w v n it
  map : MapF Tryd.prog 3 w mb f m
  nb : v.ownBlock ≠ some b

theorem law3 : Tryd.prog.underlying 3 = some (.int .i64) := Tryd.underlying3
theorem Tryd.under51 : Tryd.prog.underlying 129 = some (.map 3 3) := by kernel_rfl
theorem zero3 (w : World) : (zeroValue 3).run Tryd.prog w = .ok (.int .i64 0) w := by kernel_rfl

theorem Rep.blocks {w : World} {b mb n m : Nat} {v : Value} {it : Nat → Item} {f : Int → Option Value} (R : Rep w b mb v n it f m) : b < w.heap.size ∧ mb < w.heap.size ∧ b ≠ mb ∧ ∀ g, v.ownBlock = some g → g < w.heap.size ∧ g ≠ b ∧ g ≠ mb := by
  have hb : b < w.heap.size := World.block_lt_of_cell? w _ R.c0
  refine ⟨hb, R.map.lt, ?_, fun g hg => ⟨?_, ?_, ?_⟩⟩
  · intro e
    have h := R.map.cell 0
    rw [← e, R.c0] at h
    cases h
  · obtain ⟨xs, ho, _⟩ := R.row
    exact (ho.lt g hg).2
  · intro e; exact R.nb (by rw [hg, e])
  · intro e
    obtain ⟨xs, ho, _⟩ := R.row
    obtain ⟨D, ⟨es, clock, h1, _⟩, _⟩ := R.map
    rcases ho.2 with ⟨rfl, _⟩ | ⟨g', cap, cur, rfl, _, hgg, _⟩
    · cases hg
    · simp only [Value.ownBlock, Option.some.injEq] at hg
      rw [hg, e, h1] at hgg
      cases hgg

theorem Rep.keep {F : Nat → Prop} {w w' : World} {b mb n m : Nat} {v : Value} {it : Nat → Item} {f : Int → Option Value} (R : Rep w b mb v n it f m) (hk : Keep F w w') (h1 : ¬ F b) (h2 : ¬ F mb) (h3 : ∀ g, v.ownBlock = some g → ¬ F g) : Rep w' b mb v n it f m := by
  have hb := R.blocks.1
  exact ⟨(hk.cell (p := ⟨b, 0, none⟩) hb h1).trans R.c0, (hk.cell (p := ⟨b, 1, none⟩) hb h1).trans R.c1, (hk.frozen (p := ⟨b, 0, none⟩) hb h1).trans R.f0, R.row.keep hk h3, R.map.keep hk h2, R.nb⟩

theorem Rep.below {w w' : World} {b mb n m : Nat} {v : Value} {it : Nat → Item} {f : Int → Option Value} (R : Rep w b mb v n it f m) (hb : Below w.heap.size w w') : Rep w' b mb v n it f m :=
  R.keep (F := fun _ => False) (Keep.of_below hb) id id (fun _ _ => id)

/-- a map's store: what stands elsewhere stays -/
theorem turned_keep {w w' : World} {b : Nat} (h : w.mapTurned w' b) : Keep (fun k => k = b) w w' :=
  (Keep.refl _ w).grown h.grown (fun k hk _ => by cases hk; rfl)

set_option maxHeartbeats 1000000 in
theorem put_any {b mb g cap n m : Nat} {it : Nat → Item} {f : Int → Option Value} (i : Nat) (a s d : Int) (w : World) (R : Rep w b mb (.slice (some ⟨g, 0, none⟩) n cap) n it f m) (hi : i < n) (hm : m ≤ 1000000) (ha : (Lit.int .i64 a).wf = true) :
    Calls Tryd.prog 93 #[.pointer (some ⟨b, 0, none⟩), .int .i64 i, .agg #[.int .i64 a, .int .i64 s, .int .i64 d]] w fun e w' => e = .returned (.tuple #[]) ∧ Rep w' b mb (.slice (some ⟨g, 0, none⟩) n cap) n (updI it i ⟨a, s, d⟩) (putF f a (.int .i64 i)) (if (f a).isSome then m else m + 1) ∧ Keep (fun k => k = g ∨ k = mb) w w' := by
  obtain ⟨hb, hmb, hbm, hgs⟩ := R.blocks
  obtain ⟨hg, hgb, hgm⟩ := hgs g rfl
  obtain ⟨c0, c1, f0, row, map, nb⟩ := R
  obtain ⟨q1, q2, q3⟩ := row.cells hi
  have r1 := row.free (i * 3)
  have r2 := row.free (i * 3 + 1)
  have r3 := row.free (i * 3 + 2)
  have hj : (i : Int) < (n : Int) := by omega
  have HW : ∃ W1 : World, W1 = ((((w.setCell ⟨g, i * 3, none⟩ (.int .i64 a)).setCell ⟨g, i * 3 + 1, none⟩ (.int .i64 s)).setCell ⟨g, i * 3 + 2, none⟩ (.int .i64 d)).alloc (.cells #[.int .i64 a, .int .i64 s, .int .i64 d] 135)).drew ∧
      Keep (fun k => k = g) w W1 ∧ Row W1 (.slice (some ⟨g, 0, none⟩) n cap) n (updI it i ⟨a, s, d⟩) ∧ W1.cell? ⟨w.heap.size, 0, none⟩ = some (.int .i64 a) ∧ W1.heap.size = w.heap.size + 1 := by
    have K0 : Keep (fun k => k = g) w (((w.setCell ⟨g, i * 3, none⟩ (.int .i64 a)).setCell ⟨g, i * 3 + 1, none⟩ (.int .i64 s)).setCell ⟨g, i * 3 + 2, none⟩ (.int .i64 d)) :=
      (((Keep.refl (fun k => k = g) w).setCell (p := ⟨g, i * 3, none⟩) (fun _ => rfl) _).setCell (p := ⟨g, i * 3 + 1, none⟩) (fun _ => rfl) _).setCell (p := ⟨g, i * 3 + 2, none⟩) (fun _ => rfl) _
    refine ⟨_, rfl, (K0.alloc _).drew, ?_, ?_, ?_⟩
    · exact (row.set hi ⟨a, s, d⟩).keep (F := fun _ => False) ((Keep.refl _ _).alloc _).drew (fun _ _ => id)
    · exact World.cell?_alloc_at #[.int .i64 a, .int .i64 s, .int .i64 d] 135 w.heap.size 0 (by simp)
    · simp
  obtain ⟨W1, eW, K1, row1, q0, hs1⟩ := HW
  have d1 : W1.cell? ⟨b, 1, none⟩ = some (.map (some mb)) := (K1.cell (p := ⟨b, 1, none⟩) hb (fun e => hgb e.symm)).trans c1
  have map1 : MapF Tryd.prog 3 W1.drew mb f m := (map.keep K1 (fun e => hgm e.symm)).kept rfl
  obtain ⟨w2, hrun, M2, T2⟩ := map1.store law3 Tryd.under51 (by unfold maxLen; omega) ha (.int .i64 i)
  have K2 := turned_keep T2
  have RR : Rep w2 b mb (.slice (some ⟨g, 0, none⟩) n cap) n (updI it i ⟨a, s, d⟩) (putF f a (.int .i64 i)) (if (f a).isSome then m else m + 1) := by
    refine ⟨?_, ?_, ?_, (row1.keep (F := fun _ => False) (Keep.refl _ W1).drew (fun _ _ => id)).keep K2 (fun x hx => ?_), M2, nb⟩
    · exact (K2.cell (p := ⟨b, 0, none⟩) (by show b < W1.heap.size; omega) hbm).trans ((K1.cell (p := ⟨b, 0, none⟩) hb (fun e => hgb e.symm)).trans c0)
    · exact (K2.cell (p := ⟨b, 1, none⟩) (by show b < W1.heap.size; omega) hbm).trans d1
    · exact (K2.frozen (p := ⟨b, 0, none⟩) (by show b < W1.heap.size; omega) hbm).trans ((K1.frozen (p := ⟨b, 0, none⟩) hb (fun e => hgb e.symm)).trans f0)
    · simp only [Value.ownBlock, Option.some.injEq] at hx
      rw [← hx]; exact hgm
  have KK : Keep (fun k => k = g ∨ k = mb) w w2 := (K1.mono (fun _ _ h => Or.inl h)).trans ((Keep.refl (fun k => k = mb) W1).drew.trans K2 (fun _ _ h => h)) (fun _ _ h => Or.inr h)
  clear K1 row1 map1 M2 T2 K2 map row nb
  go_enter Tryd.func93, Tryd.ntmps93
  go_wp2
  go_region
  go_wp2
  rw [← eW]
  clear eW q1 q2 q3 r1 r2 r3 c0 c1 f0
  go_region
  go_end0
  exact ⟨rfl, RR, KK⟩
end Go.Proofs.YtfhicijgpdpfpaaDoor
