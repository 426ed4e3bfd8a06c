/-
  Texts laid together: RMoves, Dirs, AsAid, Edge, MapF.
-/
import Derived.Test.YtcagpmglijockaaGreatDoorP3
import Derived.Deep.LoopGhost
import Derived.Deep.Light
import Derived.WalkKit
import Derived.WalkSpells
import Derived.Maps.OwnSet
import Derived.Maps.OwnOps
import Derived.Deep.QuietTactic
import Derived.BigQuiet
/-
  The reference's moves from a cell; lists of directions as rows.
-/
namespace Go.Proofs.YtcagpmglijockaaGreatDoor
open Go.RowKit

theorem rmay_v {b : Nat} {W H V x y : Int} {bl : Nat → Bool} {d : Nat} {r : Bool} (hr : mayB W H bl x y d = r) (w : World) (g : RefAt w b W H V bl) (hd : d < 8) (x1 : -100 ≤ x) (x2 : x ≤ 100) (y1 : -100 ≤ y) (y2 : y ≤ 100) :
    Calls Tryz.prog 54 #[.pointer (some ⟨b, 0, none⟩), .int .i64 x, .int .i64 y, .int .i64 d] w fun e w' => e = .returned (.bool r) ∧ ∃ m, w' = w.drewN m := hr ▸ rmay_any x y d w g hd x1 x2 y1 y2

set_option maxHeartbeats 1600000 in
set_option maxRecDepth 1000000 in
theorem rmoves_in {b : Nat} {W H V : Int} {bl : Nat → Bool} (c : Int) (w : World) (g : RefAt w b W H V bl) (hr : inB W H c = true) (hb : b < w.heap.size) :
    Calls Tryz.prog 47 #[.pointer (some ⟨b, 0, none⟩), .int .i64 c] w fun e w' => ∃ v, e = .returned v ∧
      w'.ownsRow w.heap.size 3 1 v (mvs W H bl (c % W) (c / W) 8).length (vals (mvs W H bl (c % W) (c / W) 8)) ∧ Below w.heap.size w w' := by
  obtain ⟨i0, hi, hz0, hz1, hz2⟩ := info_parts Tryz.info3
  have hc : 0 ≤ c ∧ c < W * H := of_decide_eq_true hr
  obtain ⟨k1, k2⟩ := wh_bd g.w1 g.w2 g.h1 g.h2
  have gw1 := g.w1
  have gw := g.w2
  have gh := g.h2
  have x1 : 0 ≤ c % W := Int.emod_nonneg _ (by omega)
  have x2 : c % W < W := Int.emod_lt_of_pos _ (by omega)
  have y1 : 0 ≤ c / W := Int.ediv_nonneg hc.1 (by omega)
  have y3 : c / W < H := Int.ediv_lt_of_lt_mul (by omega) (by rw [Int.mul_comm]; exact hc.2)
  obtain ⟨q1, q2⟩ := hc
  go_enter Tryz.func47, Tryz.ntmps47
  go_wp2
  go_loopw [5, 6] (fun v i wr => ∃ k : Nat, k ≤ 8 ∧ i = .int .i64 k ∧ wr.ownsRow w.heap.size 3 1 v (mvs W H bl (c % W) (c / W) k).length (vals (mvs W H bl (c % W) (c / W) k)) ∧ Below w.heap.size w wr)
    (fun _ i _ => 8 - (intOf i).toNat)
  case atStart => exact ⟨0, Nat.zero_le _, rfl, World.ownsRow_nil _ _ _ _, Below.refl _ _⟩
  case round =>
    obtain ⟨k, hk, rfl, hown, hnx⟩ := hrel
    have hl := mvs_len W H bl (c % W) (c / W) k
    have gr := g.below hnx hb
    have c0 := gr.c0
    have hsz := hnx.size
    by_cases hlt : k < 8
    · have hms := mvs_succ W H bl (c % W) (c / W) k
      cases hM : mayB W H bl (c % W) (c / W) k with
      | false =>
        rw [hM] at hms
        have h0 : mvs W H bl (c % W) (c / W) (k + 1) = mvs W H bl (c % W) (c / W) k := by simpa using hms
        have HS : Hid (mvs W H bl (c % W) (c / W) (k + 1) = mvs W H bl (c % W) (c / W) k) := h0
        clear h0 hms
        go_wp2
        go_quiet ((go_at_call 54; exact Calls.quiet_of (rmay_v hM _ (gr.drewN _) hlt (by omega) (by omega) (by omega) (by omega))))
        go_wp2
        go_roundw
        case rel => exact ⟨k + 1, by omega, by go_num, by rw [HS.out]; exact hown, below_drewN hnx _⟩
        case measure => simp [intOf]; omega
      | true =>
        rw [hM] at hms
        have h0 : mvs W H bl (c % W) (c / W) (k + 1) = mvs W H bl (c % W) (c / W) k ++ [k] := by simpa using hms
        have HS : Hid (mvs W H bl (c % W) (c / W) (k + 1) = mvs W H bl (c % W) (c / W) k ++ [k]) := h0
        clear h0 hms
        go_wp2
        go_quiet ((go_at_call 54; exact Calls.quiet_of (rmay_v hM _ (gr.drewN _) hlt (by omega) (by omega) (by omega) (by omega))))
        go_wp2_with (at_builtin; refine wpList_append_own _ rfl _ _ 22 rfl w.heap.size 3 i0 (.int .i64 0) 1 8 Tryz.underlying22 hi hz0 hz1 hz2 rfl (by decide) _ _ _ rfl (World.ownsRow.alloc hown _) ⟨wr.heap.size, 0, none⟩ 1 1 [.int .i64 k] rfl rfl ?c1 ?c2 ?c3 ?c4 ?c5 ?_)
        case c1 =>
          intro j u hj
          match j, hj with
          | 0, hj =>
            simp at hj; subst hj; simp only [Addr.add]
            exact World.cell?_alloc_at (w := wr.drewN nq) #[.int .i64 k] 3 wr.heap.size 0 rfl
        case c2 => intro u hu; simp at hu; subst hu; rfl
        case c3 => unfold maxLen; omega
        case c4 => omega
        case c5 => simp; omega
        intro v' w1 hown' hgrow _
        have hbase := fun q hq => (hown.lt q hq).1
        have B1 : Below w.heap.size w w1 := ((below_drewN hnx nq).alloc hsz _).grown hgrow (by simp; omega) hbase
        have O1 : w1.ownsRow w.heap.size 3 1 v' (mvs W H bl (c % W) (c / W) (k + 1)).length (vals (mvs W H bl (c % W) (c / W) (k + 1))) := by
          rw [HS.out]
          simpa [vals] using hown'
        clear hown' hgrow hown hnx gr c0
        go_wp2
        go_roundw
        case rel => exact ⟨k + 1, by omega, by go_num, O1, B1⟩
        case measure => simp [intOf]; omega
    · have : k = 8 := by omega
      subst this
      go_wp2
      go_ret
      exact ⟨_, rfl, hown, hnx⟩
end Go.Proofs.YtcagpmglijockaaGreatDoor
/-
  Rows of directions.
-/
namespace Go.Proofs.YtcagpmglijockaaGreatDoor
open Go.RowKit

theorem OldRow.below {w w' : World} {A : Option Addr} {n : Nat} {xs : Nat → Int} (h : OldRow w A n xs) (hb : Below w.heap.size w w') : OldRow w' A n xs := fun i hi => by
  obtain ⟨b, o, e, hlt, hc⟩ := h i hi
  exact ⟨b, o, e, Nat.lt_of_lt_of_le hlt hb.size, (hb.cell (p := ⟨b, o + i, none⟩) hlt).trans hc⟩

theorem OldRow.drewN {w : World} {A : Option Addr} {n : Nat} {xs : Nat → Int} (h : OldRow w A n xs) (m : Nat) : OldRow (w.drewN m) A n xs := h

/-- a list of directions as a row -/
theorem row_of {w : World} {base : Nat} {v : Value} {l : List Nat} (h : w.ownsRow base 3 1 v l.length (vals l)) : ∃ A cap, v = .slice A l.length cap ∧ OldRow w A l.length (fun i => (l.getD i 0 : Nat)) := by
  rcases h.2 with ⟨hv, h0⟩ | ⟨g, cap, cur, hv, hb, hg, _, _, hsz, htk⟩
  · refine ⟨none, 0, by rw [h0]; exact hv, fun i hi => absurd hi (by omega)⟩
  · refine ⟨_, cap, hv, fun i hi => ⟨g, 0, rfl, (Array.getElem?_eq_some_iff.1 hg).1, ?_⟩⟩
    subst hv
    have := h.cellAt i (by omega)
    rw [Nat.zero_add, this]
    rw [List.getElem?_map, List.getElem?_eq_getElem hi]
    show _ = some (Value.int .i64 ((l.getD i 0 : Nat) : Int))
    rw [getD_at _ _ hi]
    rfl

theorem Calls.quiet_off {P : Program} {f : FuncId} {args : Array Value} {w : World} {a n : Nat} {v : Value}
    (h : Calls P f args (w.drewN (a + n)) fun e w' => e = .returned v ∧ ∃ m, w' = (w.drewN (a + n)).drewN m) : Calls P f args (w.drewN (a + n)) fun e w'' => e = .returned v ∧ ∃ m, w'' = w.drewN (a + m) :=
  h.mono fun _ _ ⟨he, m, hm⟩ => ⟨he, n + m, by rw [hm, World.drewN_drewN, Nat.add_assoc]⟩

/-- the directions from a cell: a short rising list, each below 8, each with a way back -/
structure DirsOf (W H : Int) (bl : Nat → Bool) (c : Int) (l : List Nat) : Prop where
  eq : mvs W H bl (c % W) (c / W) 8 = l
  len : l.length ≤ 8
  lt : ∀ i, i < l.length → l.getD i 0 < 8
  rise : ∀ i, 0 < i → i < l.length → l.getD (i - 1) 0 < l.getD i 0
  back : ∀ i, i < l.length → inB W H (c + (stepY (l.getD i 0) * W + stepX (l.getD i 0))) = true ∧
    ∀ l', mvs W H bl ((c + (stepY (l.getD i 0) * W + stepX (l.getD i 0))) % W) ((c + (stepY (l.getD i 0) * W + stepX (l.getD i 0))) / W) 8 = l' → ∃ j, j < l'.length ∧ l'.getD j 0 = opp (l.getD i 0)

theorem dirsOf {W H : Int} (bl : Nat → Bool) (c : Int) (w1 : 1 ≤ W) : ∃ l, DirsOf W H bl c l :=
  ⟨_, rfl, mvs_len _ _ _ _ _ _, fun _ hi => (mvs_at hi).1, fun _ h0 hi => mvs_rise h0 hi, fun _ hi => ⟨(back_facts w1 (mvs_at hi).1 (mvs_at hi).2).1, fun _ e => e ▸ (back_facts w1 (mvs_at hi).1 (mvs_at hi).2).2⟩⟩

theorem moves_v {b : Nat} {W H V c : Int} {bl : Nat → Bool} {l : List Nat} (hl : DirsOf W H bl c l) (w : World) (g : GridAt w b W H V bl) (s : StepsAt w) (hr : inB W H c = true) (hb : b < w.heap.size) :
    Calls Tryz.prog 46 #[.pointer (some ⟨b, 0, none⟩), .int .i64 c] w fun e w' => ∃ A cap, e = .returned (.tuple #[.slice A l.length cap, .nilIface]) ∧ OldRow w' A l.length (fun i => (l.getD i 0 : Nat)) ∧ Below w.heap.size w w' :=
  (moves_in c w g s hr hb).mono fun e w' ⟨v, he, hown, hbl⟩ => by
    rw [hl.eq] at hown
    obtain ⟨A, cap, rfl, hrow⟩ := row_of hown
    exact ⟨A, cap, he, hrow, hbl⟩

end Go.Proofs.YtcagpmglijockaaGreatDoor
/-
  Small facts for the walk of 'asGrid'.
-/
namespace Go.Proofs.YtcagpmglijockaaGreatDoor
open Go.RowKit

theorem Calls.quiet_off_same {P : Program} {f : FuncId} {args : Array Value} {w : World} {a n : Nat} {v : Value}
    (h : Calls P f args (w.drewN (a + n)) fun e w' => e = .returned v ∧ w' = w.drewN (a + n)) : Calls P f args (w.drewN (a + n)) fun e w'' => e = .returned v ∧ ∃ m, w'' = w.drewN (a + m) :=
  h.mono fun _ _ ⟨he, hm⟩ => ⟨he, n, hm⟩

/-- two rows of the same numbers -/
theorem sameRows {w : World} {A B : Option Addr} {n ca cb : Nat} {xs : Nat → Int} (hn : n ≤ 1000000) (hA : OldRow w A n xs) (hB : OldRow w B n xs) :
    Calls Tryz.prog 21 #[.slice A n ca, .slice B n cb] w fun e w' => e = .returned (.bool true) ∧ ∃ m, w' = w.drewN m := by
  by_cases h0 : n = 0
  · subst h0
    exact sameNumbers_zero A B ca cb w
  · obtain ⟨b, o, rfl, _, _⟩ := hA 0 (by omega)
    obtain ⟨b2, o2, rfl, _, _⟩ := hB 0 (by omega)
    refine sameNumbers_pos b o b2 o2 n ca cb xs w hn (fun i hi => ?_) (fun i hi => ?_)
    · obtain ⟨b', o', e, _, hc⟩ := hA i hi
      cases e
      exact hc
    · obtain ⟨b', o', e, _, hc⟩ := hB i hi
      cases e
      exact hc

theorem rmoves_v {b : Nat} {W H V c : Int} {bl : Nat → Bool} {l : List Nat} (hl : DirsOf W H bl c l) (w : World) (g : RefAt w b W H V bl) (hr : inB W H c = true) (hb : b < w.heap.size) :
    Calls Tryz.prog 47 #[.pointer (some ⟨b, 0, none⟩), .int .i64 c] w fun e w' => ∃ A cap, e = .returned (.slice A l.length cap) ∧ OldRow w' A l.length (fun i => (l.getD i 0 : Nat)) ∧ Below w.heap.size w w' :=
  (rmoves_in c w g hr hb).mono fun e w' ⟨v, he, hown, hbl⟩ => by
    rw [hl.eq] at hown
    obtain ⟨A, cap, rfl, hrow⟩ := row_of hown
    exact ⟨A, cap, he, hrow, hbl⟩

theorem rto_v {b : Nat} {W H V c r : Int} {bl : Nat → Bool} {d : Nat} (hr : c + (stepY d * W + stepX d) = r) (w : World) (g : RefAt w b W H V bl) (hd : d < 8) (c1 : -1000 ≤ c) (c2 : c ≤ 1000) :
    Calls Tryz.prog 49 #[.pointer (some ⟨b, 0, none⟩), .int .i64 c, .int .i64 d] w fun e w' => e = .returned (.int .i64 r) ∧ w' = w := by
  have := rto_any c d w g hd c1 c2
  rw [show c + stepX d + stepY d * W = r from by omega] at this
  exact this
theorem to_v {b : Nat} {W H V c r : Int} {bl : Nat → Bool} {d : Nat} (hr : c + (stepY d * W + stepX d) = r) (w : World) (g : GridAt w b W H V bl) (s : StepsAt w) (hd : d < 8) (c1 : -1000 ≤ c) (c2 : c ≤ 1000) :
    Calls Tryz.prog 48 #[.pointer (some ⟨b, 0, none⟩), .int .i64 c, .int .i64 d] w fun e w' => e = .returned (.int .i64 r) ∧ ∃ m, w' = w.drewN m := hr ▸ to_any c d w g s hd c1 c2

/-- both grids alike -/
structure Pair (w : World) (g m : Nat) (W H V : Int) (bl : Nat → Bool) : Prop where
  ga : GridAt w g W H V bl
  ra : RefAt w m W H V bl
  gl : g < w.heap.size
  ml : m < w.heap.size
  st : StepsAt w
  z : 0 < w.heap.size
theorem Pair.below {w w' : World} {g m : Nat} {W H V : Int} {bl : Nat → Bool} (h : Pair w g m W H V bl) (hb : Below w.heap.size w w') : Pair w' g m W H V bl :=
  ⟨h.ga.below hb h.gl, h.ra.below hb h.ml, Nat.lt_of_lt_of_le h.gl hb.size, Nat.lt_of_lt_of_le h.ml hb.size, h.st.below hb h.z, Nat.lt_of_lt_of_le h.z hb.size⟩
theorem Pair.drewN {w : World} {g m : Nat} {W H V : Int} {bl : Nat → Bool} (h : Pair w g m W H V bl) (k : Nat) : Pair (w.drewN k) g m W H V bl := ⟨h.ga.drewN k, h.ra.drewN k, h.gl, h.ml, h.st, h.z⟩
end Go.Proofs.YtcagpmglijockaaGreatDoor
/-
  Steps on a grid as edges; what a step costs; may one be in a cell?
-/
namespace Go.Proofs.YtcagpmglijockaaGreatDoor
open Go.RowKit

/-- one may go from a in direction k, and comes to b -/
def Edge (W H : Int) (bl : Nat → Bool) (a : Int) (k : Nat) (b : Int) : Prop := k < 8 ∧ inB W H a = true ∧ mayB W H bl (a % W) (a / W) k = true ∧ b = a + (stepY k * W + stepX k)

theorem Edge.in' {W H a b : Int} {bl : Nat → Bool} {k : Nat} (w1 : 1 ≤ W) (e : Edge W H bl a k b) : inB W H b = true := by
  rw [e.2.2.2]; exact (back_facts w1 e.1 e.2.2.1).1

theorem st_opp (k : Nat) : stS (opp k) = stS k ∧ stD (opp k) = stD k := by
  have : opp k % 2 = k % 2 := by unfold opp; omega
  unfold stS stD
  rw [this]
  exact ⟨rfl, rfl⟩

theorem Edge.back {W H : Int} {bl : Nat → Bool} (w1 : 1 ≤ W) (a : Int) (k : Nat) (b : Int) (e : Edge W H bl a k b) : ∃ k', Edge W H bl b k' a ∧ stS k' = stS k ∧ stD k' = stD k := by
  obtain ⟨h1, h2, h3, h4⟩ := e
  obtain ⟨f1, j, hj, hj2⟩ := back_facts w1 h1 h3
  have hm := mvs_at hj
  rw [hj2, ← h4] at hm
  refine ⟨opp k, ⟨opp_lt k, by rw [h4]; exact f1, hm.2, ?_⟩, st_opp k⟩
  rw [h4]; exact (back_home h1).symm

theorem Edge.one {W H a b c : Int} {bl : Nat → Bool} {k j : Nat} (e : Edge W H bl a k b) (f : Edge W H bl a j c) (h : j = k) : c = b := by
  rw [e.2.2.2, f.2.2.2, h]

theorem step_oct (d : Nat) (h : d < 8) : dst (dst 0 (stepX d)) (dst 0 (stepY d)) = stS d ∧ les (dst 0 (stepX d)) (dst 0 (stepY d)) = stD d := by
  have hks : d = 0 ∨ d = 1 ∨ d = 2 ∨ d = 3 ∨ d = 4 ∨ d = 5 ∨ d = 6 ∨ d = 7 := by omega
  rcases hks with rfl | rfl | rfl | rfl | rfl | rfl | rfl | rfl <;> decide

set_option maxHeartbeats 400000 in
theorem check_out {b : Nat} {W H V : Int} {bl : Nat → Bool} (c : Int) (w : World) (g : GridAt w b W H V bl) (hr : inB W H c = false) :
    Calls Tryz.prog 55 #[.pointer (some ⟨b, 0, none⟩), .int .i64 c] w fun e w' => e = .returned (.iface 75 (.int .i64 1)) ∧ ∃ m, w' = w.drewN m := by
  go_enter Tryz.func55, Tryz.ntmps55
  go_wp2_with (go_at_call 45; refine (free_out c _ g hr).mono ?_; rintro e w' ⟨rfl, m, rfl⟩)
  go_ret
  exact ⟨rfl, _, rfl⟩
set_option maxHeartbeats 400000 in
theorem check_bl {b : Nat} {W H V : Int} {bl : Nat → Bool} (c : Nat) (w : World) (g : GridAt w b W H V bl) (hr : inB W H c = true) (hb : bl c = true) :
    Calls Tryz.prog 55 #[.pointer (some ⟨b, 0, none⟩), .int .i64 c] w fun e w' => e = .returned (.iface 75 (.int .i64 4)) ∧ ∃ m, w' = w.drewN m := by
  have hf := fun w g => free_in (b := b) (W := W) (H := H) (V := V) (bl := bl) c w g hr
  rw [hb] at hf
  go_enter Tryz.func55, Tryz.ntmps55
  go_wp2_with (go_at_call 45; refine (hf _ g).mono ?_; rintro e w' ⟨rfl, m, rfl⟩)
  go_ret
  exact ⟨rfl, _, rfl⟩
set_option maxHeartbeats 400000 in
theorem check_ok {b : Nat} {W H V : Int} {bl : Nat → Bool} (c : Nat) (w : World) (g : GridAt w b W H V bl) (hr : inB W H c = true) (hb : bl c = false) :
    Calls Tryz.prog 55 #[.pointer (some ⟨b, 0, none⟩), .int .i64 c] w fun e w' => e = .returned .nilIface ∧ ∃ m, w' = w.drewN m := by
  have hf := fun w g => free_in (b := b) (W := W) (H := H) (V := V) (bl := bl) c w g hr
  rw [hb] at hf
  go_enter Tryz.func55, Tryz.ntmps55
  go_wp2_with (go_at_call 45; refine (hf _ g).mono ?_; rintro e w' ⟨rfl, m, rfl⟩)
  go_ret
  exact ⟨rfl, _, rfl⟩
end Go.Proofs.YtcagpmglijockaaGreatDoor
/-
  A map with whole numbers as keys that lies in a block, told as a function of the key; and worlds that differ but in some blocks.
-/
namespace Go.Proofs.YtcagpmglijockaaGreatDoor
open Go.RowKit Go.Maps

/-- what old blocks may have turned -/
structure Keep (F : Nat → Prop) (w w' : World) : Prop where
  os : w'.os = w.os
  tape : w'.tape = w.tape
  output : w'.output = w.output
  size : w.heap.size ≤ w'.heap.size
  block : ∀ k, k < w.heap.size → ¬ F k → w'.heap[k]? = w.heap[k]?

theorem Keep.refl (F : Nat → Prop) (w : World) : Keep F w w := ⟨rfl, rfl, rfl, Nat.le_refl _, fun _ _ _ => rfl⟩
theorem Keep.trans {F G : Nat → Prop} {a b c : World} (h : Keep F a b) (k : Keep G b c) (hs : ∀ i, i < a.heap.size → G i → F i) : Keep F a c :=
  ⟨k.os.trans h.os, k.tape.trans h.tape, k.output.trans h.output, Nat.le_trans h.size k.size, fun i hi hn => (k.block i (Nat.lt_of_lt_of_le hi h.size) (fun g => hn (hs i hi g))).trans (h.block i hi hn)⟩
theorem Keep.mono {F G : Nat → Prop} {a b : World} (h : Keep F a b) (hs : ∀ i, i < a.heap.size → F i → G i) : Keep G a b :=
  ⟨h.os, h.tape, h.output, h.size, fun i hi hn => h.block i hi (fun g => hn (hs i hi g))⟩
theorem Keep.grown {F : Nat → Prop} {a b c : World} {row : Option Nat} (h : Keep F a b) (hg : b.grownBy c row) (hr : ∀ k, row = some k → k < a.heap.size → F k) : Keep F a c :=
  ⟨hg.os.trans h.os, hg.tape.trans h.tape, hg.output.trans h.output, Nat.le_trans h.size hg.size, fun i hi hn => (hg.block i (Nat.lt_of_lt_of_le hi h.size) (fun e => hn (hr i e.symm hi))).trans (h.block i hi hn)⟩
theorem Keep.alloc {F : Nat → Prop} {a b : World} (h : Keep F a b) (o : Obj) : Keep F a (b.alloc o) := h.grown (World.grownBy_alloc b o none) (by simp)
theorem Keep.setCell {F : Nat → Prop} {a b : World} (h : Keep F a b) {p : Addr} (hp : p.block < a.heap.size → F p.block) (u : Value) : Keep F a (b.setCell p u) :=
  ⟨h.os, h.tape, h.output, by simpa using h.size, fun i hi hn => (Below.heap_setCell b p u i (fun e => hn (by rw [e] at hi ⊢; exact hp hi))).trans (h.block i hi hn)⟩
theorem Keep.drewN {F : Nat → Prop} {a b : World} (h : Keep F a b) (m : Nat) : Keep F a (b.drewN m) := ⟨h.os, h.tape, h.output, h.size, h.block⟩
theorem Keep.drew {F : Nat → Prop} {a b : World} (h : Keep F a b) : Keep F a b.drew := ⟨h.os, h.tape, h.output, h.size, h.block⟩
theorem Keep.below {F : Nat → Prop} {a b c : World} (h : Keep F a b) (hb : Below b.heap.size b c) : Keep F a c :=
  ⟨hb.os.trans h.os, hb.tape.trans h.tape, hb.output.trans h.output, Nat.le_trans h.size hb.size, fun i hi hn => (hb.block i (Nat.lt_of_lt_of_le hi h.size)).trans (h.block i hi hn)⟩
theorem Keep.of_below {F : Nat → Prop} {b c : World} (hb : Below b.heap.size b c) : Keep F b c := (Keep.refl F b).below hb
theorem Keep.to_below {F : Nat → Prop} {B : Nat} {a b : World} (h : Keep F a b) (hB : B ≤ a.heap.size) (hF : ∀ k, F k → B ≤ k) : Below B a b :=
  ⟨h.os, h.tape, h.output, h.size, fun i hi => h.block i (by omega) (fun g => by have := hF i g; omega)⟩
theorem Keep.cell {F : Nat → Prop} {w w' : World} (h : Keep F w w') {p : Addr} (hp : p.block < w.heap.size) (hn : ¬ F p.block) : w'.cell? p = w.cell? p := World.cell?_of_block (w := w) (h.block p.block hp hn)
theorem Keep.frozen {F : Nat → Prop} {w w' : World} (h : Keep F w w') {p : Addr} (hp : p.block < w.heap.size) (hn : ¬ F p.block) : w'.frozen? p = w.frozen? p := World.frozen?_of_block (w := w) (h.block p.block hp hn)
theorem Keep.cellOf {F : Nat → Prop} {w w' : World} (h : Keep F w w') {p : Addr} {v : Value} (hc : w.cell? p = some v) (hn : ¬ F p.block) : w'.cell? p = some v := (h.cell (World.block_lt_of_cell? w p hc) hn).trans hc

/-- how an element reads: as itself -/
def asIs (v : Value) : Option (DataW Value × List MemPlace) := some (.held v, [])

/-- block b is a map of n entries; f says what lies at each key -/
def MapF (P : Program) (k : TypeId) (w : World) (b : Nat) (f : Int → Option Value) (n : Nat) : Prop :=
  ∃ D : DataW Value, w.ownsMap P k asIs b n D ∧ Maps.size D = n ∧ ∀ a : Int, Maps.has D (.int .i64 a) = (f a).isSome ∧ ∀ v, f a = some v → ∀ z, D.atKey (.int .i64 a) z = .held v

/-- one key's value laid -/
def putF (f : Int → Option Value) (a : Int) (v : Value) : Int → Option Value := fun i => if i = a then some v else f i
/-- one key struck -/
def delF (f : Int → Option Value) (a : Int) : Int → Option Value := fun i => if i = a then none else f i
theorem putF_same (f : Int → Option Value) (a : Int) (v : Value) : putF f a v a = some v := if_pos rfl
theorem putF_other (f : Int → Option Value) {a i : Int} (v : Value) (h : i ≠ a) : putF f a v i = f i := if_neg h
theorem delF_same (f : Int → Option Value) (a : Int) : delF f a a = none := if_pos rfl
theorem delF_other (f : Int → Option Value) {a i : Int} (h : i ≠ a) : delF f a i = f i := if_neg h

variable {P : Program} {k e t : TypeId} {w : World} {b n : Nat} {f : Int → Option Value}

theorem tight {D : DataW Value} {R : Value → Option (DataW Value × List MemPlace)} {m : Nat} (h : w.ownsMap P k R b m D) : w.ownsMap P k R b (Maps.size D) D := by
  obtain ⟨es, clock, hb, F, _, rfl⟩ := h
  exact ⟨es, clock, hb, F, by simp [Maps.size, length_sorted], rfl⟩

theorem MapF.made (w : World) (P : Program) (k : TypeId) : MapF P k (w.alloc (.map #[] 0)) w.heap.size (fun _ => none) 0 :=
  ⟨_, World.ownsMap_made w P k asIs, rfl, fun a => ⟨rfl, fun v h => by cases h⟩⟩

theorem MapF.lt (h : MapF P k w b f n) : b < w.heap.size := by obtain ⟨D, h, _⟩ := h; exact h.lt
theorem MapF.kept {w' : World} (h : MapF P k w b f n) (hb : w'.heap[b]? = w.heap[b]?) : MapF P k w' b f n := by
  obtain ⟨D, ⟨es, clock, h1, h2⟩, h3⟩ := h
  exact ⟨D, ⟨es, clock, hb.trans h1, h2⟩, h3⟩
theorem MapF.keep {F : Nat → Prop} {w' : World} (h : MapF P k w b f n) (hk : Keep F w w') (hn : ¬ F b) : MapF P k w' b f n := h.kept (hk.block b h.lt hn)
theorem MapF.cell (h : MapF P k w b f n) (o : Nat) : w.cell? ⟨b, o, none⟩ = none := by
  obtain ⟨D, ⟨es, clock, h1, _⟩, _⟩ := h
  simp [World.cell?, h1]

theorem key_of (hk : P.underlying k = some (.int .i64)) {a : Int} (ha : (Lit.int .i64 a).wf = true) : keyOf P k (.int .i64 a) = some (.int .i64 a) := keyOf_int_mk hk ha

theorem MapF.look_some (h : MapF P k w b f n) (hk : P.underlying k = some (.int .i64)) (ht : P.underlying t = some (.map k e)) {z : Value} (hz : (zeroValue e).run P w = .ok z w) {a : Int} (ha : (Lit.int .i64 a).wf = true) {v : Value} (hv : f a = some v) (c : Bool) :
    (Instr.lookup t (.map (some b)) (.int .i64 a) c).run P w = .ok (if c then .tuple #[v, .bool true] else v) w := by
  obtain ⟨D, h1, _, h3⟩ := h
  obtain ⟨h4, h5⟩ := h3 a
  rw [hv] at h4
  cases c with
  | true =>
    obtain ⟨v', ps, hrun, hR⟩ := h1.look_ok (int_keyed hk) ht hz (zd := .held z) (zp := []) rfl (key_of hk ha)
    rw [h5 v hv] at hR
    simp only [asIs, Option.some.injEq, Prod.mk.injEq, DataW.held.injEq] at hR
    rw [h4, hR.1] at hrun
    exact hrun
  | false =>
    obtain ⟨v', ps, hrun, hR⟩ := h1.lookup (int_keyed hk) ht hz (zd := .held z) (zp := []) rfl (key_of hk ha)
    rw [h5 v hv] at hR
    simp only [asIs, Option.some.injEq, Prod.mk.injEq, DataW.held.injEq] at hR
    rw [hR.1] at hrun
    exact hrun

theorem MapF.look_none (h : MapF P k w b f n) (hk : P.underlying k = some (.int .i64)) (ht : P.underlying t = some (.map k e)) {z : Value} (hz : (zeroValue e).run P w = .ok z w) {a : Int} (ha : (Lit.int .i64 a).wf = true) (hv : f a = none) (c : Bool) :
    (Instr.lookup t (.map (some b)) (.int .i64 a) c).run P w = .ok (if c then .tuple #[z, .bool false] else z) w := by
  obtain ⟨D, h1, _, h3⟩ := h
  obtain ⟨h4, _⟩ := h3 a
  rw [hv] at h4
  have h5 : D.atKey (.int .i64 a) (.held z) = .held z := atKey_of_not_has h4 _
  cases c with
  | true =>
    obtain ⟨v', ps, hrun, hR⟩ := h1.look_ok (int_keyed hk) ht hz (zd := .held z) (zp := []) rfl (key_of hk ha)
    rw [h5] at hR
    simp only [asIs, Option.some.injEq, Prod.mk.injEq, DataW.held.injEq] at hR
    rw [h4, hR.1] at hrun
    exact hrun
  | false =>
    obtain ⟨v', ps, hrun, hR⟩ := h1.lookup (int_keyed hk) ht hz (zd := .held z) (zp := []) rfl (key_of hk ha)
    rw [h5] at hR
    simp only [asIs, Option.some.injEq, Prod.mk.injEq, DataW.held.injEq] at hR
    rw [hR.1] at hrun
    exact hrun

theorem MapF.len (h : MapF P k w b f n) (ht : P.underlying t = some (.map k e)) (ty : TypeId) : (Builtin.len_ #[t] ty #[.map (some b)]).run P w = .ok (.int .i64 n) w := by
  obtain ⟨D, h1, h2, _⟩ := h
  rw [← h2]
  exact h1.len ht ty

theorem lit_ne {a i : Int} (h : i ≠ a) : (Lit.int .i64 i) ≠ .int .i64 a := fun e => h (by cases e; rfl)

theorem is_key (a : Int) : WideAt.IsKeyLit (.int .i64 a) := trivial

theorem MapF.store (h : MapF P k w b f n) (hk : P.underlying k = some (.int .i64)) (ht : P.underlying t = some (.map k e)) (hn : n < maxLen) {a : Int} (ha : (Lit.int .i64 a).wf = true) (v : Value) :
    ∃ w', (Instr.mapUpdate t (.map (some b)) (.int .i64 a) v).run P w = .ok () w' ∧ MapF P k w' b (putF f a v) (if (f a).isSome then n else n + 1) ∧ w.mapTurned w' b := by
  obtain ⟨D, h1, h2, h3⟩ := h
  obtain ⟨w', hrun, ho, hg⟩ := h1.store (int_keyed hk) ht hn (key_of hk ha) (val := v) (d := .held v) (ps := []) rfl
  refine ⟨w', hrun, ⟨D.put (.int .i64 a) (.held v), ?_, ?_, fun i => ?_⟩, hg⟩
  · have := tight ho
    rw [size_put (h1.tidy (int_keyed hk)), (h3 a).1, h2] at this
    exact this
  · rw [size_put (h1.tidy (int_keyed hk)), (h3 a).1, h2]
  · by_cases hi : i = a
    · subst hi
      rw [putF_same]
      exact ⟨has_put_same h1.isMap (is_key i) _, fun u hu z => by cases hu; exact atKey_put_same h1.isMap (is_key i) _ _⟩
    · rw [putF_other _ _ hi, has_put_other (lit_ne hi)]
      exact ⟨(h3 i).1, fun u hu z => by rw [atKey_put_other (lit_ne hi)]; exact (h3 i).2 u hu z⟩

theorem MapF.drop (h : MapF P k w b f n) (hk : P.underlying k = some (.int .i64)) (ht : P.underlying t = some (.map k e)) {a : Int} (ha : (Lit.int .i64 a).wf = true) (ty : TypeId) :
    ∃ w', (Builtin.delete_ #[t, k] ty #[.map (some b), .int .i64 a]).run P w = .ok (.tuple #[]) w' ∧ MapF P k w' b (delF f a) (if (f a).isSome then n - 1 else n) ∧ w.mapTurned w' b := by
  obtain ⟨D, h1, h2, h3⟩ := h
  obtain ⟨w', hrun, ho, hg⟩ := h1.drop (int_keyed hk) ht (key_of hk ha) ty
  have hs := size_del (k := .int .i64 a) (h1.tidy (int_keyed hk))
  rw [(h3 a).1, h2] at hs
  have hs2 : Maps.size (D.del (.int .i64 a)) = if (f a).isSome then n - 1 else n := by
    cases hx : (f a).isSome <;> simp [hx] at hs ⊢ <;> omega
  refine ⟨w', hrun, ⟨D.del (.int .i64 a), ?_, hs2, fun i => ?_⟩, hg⟩
  · rw [← hs2]; exact tight ho
  · by_cases hi : i = a
    · subst hi
      rw [delF_same]
      exact ⟨has_del_same, fun u hu => by cases hu⟩
    · rw [delF_other _ hi, has_del_other (lit_ne hi)]
      exact ⟨(h3 i).1, fun u hu z => by rw [atKey_del_other (lit_ne hi)]; exact (h3 i).2 u hu z⟩

section
variable {ops : Array Oper} {rest : List Oper} {o : Oper} {a : Act} {Q : Exit → Act → World → Prop}

/-- a store, at the operation -/
theorem wpList_put (hg : o.guard = none) (m x v : Operand) (t : TypeId) (hop : o.op = Op.mapUpdate t m x v) (k e : TypeId) (hk : P.underlying k = some (.int .i64)) (ht : P.underlying t = some (.map k e)) (b n : Nat) (f : Int → Option Value)
    (hm : a.eval m = .map (some b)) (h : MapF P k w b f n) (hn : n < maxLen) (i : Int) (val : Value) (hx : a.eval x = .int .i64 i) (hv : a.eval v = val) (hi : (Lit.int .i64 i).wf = true)
    (hK : ∀ w', MapF P k w' b (putF f i val) (if (f i).isSome then n else n + 1) → w.mapTurned w' b → wpList P ops Q rest (a.put o.dst undef) w') :
    wpList P ops Q (o :: rest) a w := by
  refine wpList_plain hg fun K' hK' => ?_
  obtain ⟨w', hrun, r1, r2⟩ := h.store hk ht hn hi val
  unfold Oper.wp
  simp [execOp, hop, hm, hx, hv, hrun, Result.andThen]
  exact hK' _ _ (hK w' r1 r2)

/-- a key struck, at the operation -/
theorem wpList_drop (hg : o.guard = none) (m x : Operand) (t k : TypeId) (hop : o.op = Op.call { callee := Callee.builtin Builtin.delete, args := #[m, x], argTypes := #[t, k] }) (e : TypeId) (hk : P.underlying k = some (.int .i64)) (ht : P.underlying t = some (.map k e)) (b n : Nat) (f : Int → Option Value)
    (hm : a.eval m = .map (some b)) (h : MapF P k w b f n) (i : Int) (hx : a.eval x = .int .i64 i) (hi : (Lit.int .i64 i).wf = true)
    (hK : ∀ w', MapF P k w' b (delF f i) (if (f i).isSome then n - 1 else n) → w.mapTurned w' b → wpList P ops Q rest (a.put o.dst (.tuple #[])) w') :
    wpList P ops Q (o :: rest) a w := by
  refine wpList_plain hg fun K' hK' => ?_
  obtain ⟨w', hrun, r1, r2⟩ := h.drop hk ht hi o.type
  unfold Oper.wp
  simp [execOp, hop, resolve, invoke, builtin, hm, hx, hrun, Result.andThen]
  exact hK' _ _ (hK w' r1 r2)

/-- a look-up of a key that is there, at the operation -/
theorem wpList_look_some (hg : o.guard = none) (m x : Operand) (t : TypeId) (c : Bool) (hop : o.op = Op.lookup t m x c) (k e : TypeId) (hk : P.underlying k = some (.int .i64)) (ht : P.underlying t = some (.map k e)) {z : Value} (hz : (zeroValue e).run P w = .ok z w) (b n : Nat) (f : Int → Option Value)
    (hm : a.eval m = .map (some b)) (h : MapF P k w b f n) (i : Int) (hx : a.eval x = .int .i64 i) (hi : (Lit.int .i64 i).wf = true) (v : Value) (hv : f i = some v)
    (hK : wpList P ops Q rest (a.put o.dst (if c then .tuple #[v, .bool true] else v)) w) :
    wpList P ops Q (o :: rest) a w := by
  refine wpList_plain hg fun K' hK' => ?_
  have hrun := h.look_some hk ht hz hi hv c
  unfold Oper.wp
  simp only [execOp, hop, hm, hx]
  rw [Sem.run_bind, hrun]
  exact hK' _ _ hK

/-- a look-up of a key that is not there, at the operation -/
theorem wpList_look_none (hg : o.guard = none) (m x : Operand) (t : TypeId) (c : Bool) (hop : o.op = Op.lookup t m x c) (k e : TypeId) (hk : P.underlying k = some (.int .i64)) (ht : P.underlying t = some (.map k e)) {z : Value} (hz : (zeroValue e).run P w = .ok z w) (b n : Nat) (f : Int → Option Value)
    (hm : a.eval m = .map (some b)) (h : MapF P k w b f n) (i : Int) (hx : a.eval x = .int .i64 i) (hi : (Lit.int .i64 i).wf = true) (hv : f i = none)
    (hK : wpList P ops Q rest (a.put o.dst (if c then .tuple #[z, .bool false] else z)) w) :
    wpList P ops Q (o :: rest) a w := by
  refine wpList_plain hg fun K' hK' => ?_
  have hrun := h.look_none hk ht hz hi hv c
  unfold Oper.wp
  simp only [execOp, hop, hm, hx]
  rw [Sem.run_bind, hrun]
  exact hK' _ _ hK
end
end Go.Proofs.YtcagpmglijockaaGreatDoor
