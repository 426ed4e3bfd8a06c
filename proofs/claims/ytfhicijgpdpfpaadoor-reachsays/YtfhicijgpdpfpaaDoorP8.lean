/-
  Texts laid together: Edge, PushAll, Beside, Spread.
-/
import Derived.Test.YtfhicijgpdpfpaaDoorP7
import Derived.Deep.RegionHeld3
/-
  Steps on a grid as edges; what a step costs; may one be in a cell?
-/
namespace Go.Proofs.YtfhicijgpdpfpaaDoor
open Go.RowKit

/-- one may go from a in direction k, and comes to b -/
def Edge (W H : Int) (bl : Nat → Bool) (a : Int) (k : Nat) (b : Int) : Prop := k < 8 ∧ inB W H a = true ∧ mayB W H bl (a % W) (a / W) k = true ∧ b = a + (stepY k * W + stepX k)

theorem Edge.in' {W H a b : Int} {bl : Nat → Bool} {k : Nat} (w1 : 1 ≤ W) (e : Edge W H bl a k b) : inB W H b = true := by
  rw [e.2.2.2]; exact (back_facts w1 e.1 e.2.2.1).1

theorem st_opp (k : Nat) : stS (opp k) = stS k ∧ stD (opp k) = stD k := by
  have : opp k % 2 = k % 2 := by unfold opp; omega
  unfold stS stD
  rw [this]
  exact ⟨rfl, rfl⟩

theorem Edge.back {W H : Int} {bl : Nat → Bool} (w1 : 1 ≤ W) (a : Int) (k : Nat) (b : Int) (e : Edge W H bl a k b) : ∃ k', Edge W H bl b k' a ∧ stS k' = stS k ∧ stD k' = stD k := by
  obtain ⟨h1, h2, h3, h4⟩ := e
  obtain ⟨f1, j, hj, hj2⟩ := back_facts w1 h1 h3
  have hm := mvs_at hj
  rw [hj2, ← h4] at hm
  refine ⟨opp k, ⟨opp_lt k, by rw [h4]; exact f1, hm.2, ?_⟩, st_opp k⟩
  rw [h4]; exact (back_home h1).symm

theorem Edge.one {W H a b c : Int} {bl : Nat → Bool} {k j : Nat} (e : Edge W H bl a k b) (f : Edge W H bl a j c) (h : j = k) : c = b := by
  rw [e.2.2.2, f.2.2.2, h]

theorem step_oct (d : Nat) (h : d < 8) : dst (dst 0 (stepX d)) (dst 0 (stepY d)) = stS d ∧ les (dst 0 (stepX d)) (dst 0 (stepY d)) = stD d := by
  have hks : d = 0 ∨ d = 1 ∨ d = 2 ∨ d = 3 ∨ d = 4 ∨ d = 5 ∨ d = 6 ∨ d = 7 := by omega
  rcases hks with rfl | rfl | rfl | rfl | rfl | rfl | rfl | rfl <;> decide

set_option maxHeartbeats 400000 in
theorem stepCost_any (d : Nat) (w : World) (h : StepsAt w) (hd : d < 8) :
    Calls Tryd.prog 47 #[.int .i64 d] w fun e w' => e = .returned (.agg #[.int .i64 (stS d), .int .i64 (stD d)]) ∧ Below w.heap.size w w' := by
  obtain ⟨b1, b2, b3, b4⟩ := step_bd d
  obtain ⟨e1, e2⟩ := step_oct d hd
  have hs := fun w' (hb : Below w.heap.size w w') (h0 : 0 < w.heap.size) => step_any d w' (h.below hb h0) hd
  have ho := fun w' => oct_any 0 0 (stepX d) (stepY d) w' (by unfold nearB; omega) (by unfold nearB; omega) (by unfold nearB; omega) (by unfold nearB; omega)
  rw [e1, e2] at ho
  have h0 : 0 < w.heap.size := World.block_lt_of_cell? w _ (h 0 (by decide)).1
  have HB : Below w.heap.size w (w.alloc (.cells #[.int .i64 0, .int .i64 0] 31)) := (Below.refl _ _).alloc (Nat.le_refl _) _
  generalize stepX d = dx at *
  generalize stepY d = dy at *
  clear e1 e2
  generalize stS d = cs at *
  generalize stD d = cd at *
  go_enter Tryd.func47, Tryd.ntmps47
  go_wp2_with (first | (go_at_call 58; refine (hs _ HB h0).mono ?_; rintro e w' ⟨rfl, m, rfl⟩) | (go_at_call 77; refine (ho _).mono ?_; rintro e w2 ⟨rfl, hb2⟩; obtain ⟨hq1, hq2⟩ := bcell hb2))
  have a0 : w2.cell? ⟨w.heap.size, 0, none⟩ = some (.int .i64 0) := (hq1 _ _ (by simp)).trans (World.cell?_alloc_at #[.int .i64 0, .int .i64 0] 31 w.heap.size 0 rfl)
  have a1 : w2.cell? ⟨w.heap.size, 1, none⟩ = some (.int .i64 0) := (hq1 _ _ (by simp)).trans (World.cell?_alloc_at #[.int .i64 0, .int .i64 0] 31 w.heap.size 1 rfl)
  have r0 := popCells w2 w.heap.size cs cd a0 a1
  have HB2 : Below w.heap.size w w2 := (below_drewN HB m).trans (hb2.mono (by simp))
  exact bodyPost_ret (v := .agg #[.int .i64 cs, .int .i64 cd]) (by simp [results, Tryd.results47, go_sem, r0.1, r0.2]) rfl ⟨rfl, (HB2.setCell (p := ⟨w.heap.size, 0, none⟩) (Nat.le_refl _) _).setCell (p := ⟨w.heap.size, 1, none⟩) (Nat.le_refl _) _⟩

set_option maxHeartbeats 400000 in
theorem check_out {b : Nat} {W H V : Int} {bl : Nat → Bool} (c : Int) (w : World) (g : GridAt w b W H V bl) (hr : inB W H c = false) :
    Calls Tryd.prog 45 #[.pointer (some ⟨b, 0, none⟩), .int .i64 c] w fun e w' => e = .returned (.iface 78 (.int .i64 1)) ∧ ∃ m, w' = w.drewN m := by
  go_enter Tryd.func45, Tryd.ntmps45
  go_wp2_with (go_at_call 53; refine (free_out c _ g hr).mono ?_; rintro e w' ⟨rfl, m, rfl⟩)
  go_ret
  exact ⟨rfl, _, rfl⟩
set_option maxHeartbeats 400000 in
theorem check_bl {b : Nat} {W H V : Int} {bl : Nat → Bool} (c : Nat) (w : World) (g : GridAt w b W H V bl) (hr : inB W H c = true) (hb : bl c = true) :
    Calls Tryd.prog 45 #[.pointer (some ⟨b, 0, none⟩), .int .i64 c] w fun e w' => e = .returned (.iface 78 (.int .i64 4)) ∧ ∃ m, w' = w.drewN m := by
  have hf := fun w g => free_in (b := b) (W := W) (H := H) (V := V) (bl := bl) c w g hr
  rw [hb] at hf
  go_enter Tryd.func45, Tryd.ntmps45
  go_wp2_with (go_at_call 53; refine (hf _ g).mono ?_; rintro e w' ⟨rfl, m, rfl⟩)
  go_ret
  exact ⟨rfl, _, rfl⟩
set_option maxHeartbeats 400000 in
theorem check_ok {b : Nat} {W H V : Int} {bl : Nat → Bool} (c : Nat) (w : World) (g : GridAt w b W H V bl) (hr : inB W H c = true) (hb : bl c = false) :
    Calls Tryd.prog 45 #[.pointer (some ⟨b, 0, none⟩), .int .i64 c] w fun e w' => e = .returned .nilIface ∧ ∃ m, w' = w.drewN m := by
  have hf := fun w g => free_in (b := b) (W := W) (H := H) (V := V) (bl := bl) c w g hr
  rw [hb] at hf
  go_enter Tryd.func45, Tryd.ntmps45
  go_wp2_with (go_at_call 53; refine (hf _ g).mono ?_; rintro e w' ⟨rfl, m, rfl⟩)
  go_ret
  exact ⟨rfl, _, rfl⟩
end Go.Proofs.YtfhicijgpdpfpaaDoor
/-
  Pushing, in one word for all cases.
-/
namespace Go.Proofs.YtfhicijgpdpfpaaDoor
open Go.RowKit

/-- does a push change the heap? -/
def pushB (H : Int → Option (Int × Int)) (a s d : Int) : Bool := match H a with | none => true | some c => decide (val s d < val c.1 c.2)
/-- what is there behind a push -/
def pushH (H : Int → Option (Int × Int)) (a s d : Int) : Int → Option (Int × Int) := if pushB H a s d then putH H a s d else H

theorem pushed (H : Int → Option (Int × Int)) (a s d : Int) : Pushed H a s d (pushH H a s d) := by
  unfold Pushed pushH pushB
  cases ha : H a with
  | none => left; exact ⟨rfl, fun h => (by cases h)⟩
  | some c =>
    obtain ⟨t, u⟩ := c
    by_cases hv : val s d < val t u
    · left
      refine ⟨by simp [hv], fun h => ?_⟩
      cases h; exact hv
    · right
      exact ⟨by simp [hv], t, u, rfl, by omega⟩

/-- a heap that has become this one -/
def HeapTo (w w' : World) (b mb : Nat) (v : Value) (n : Nat) (H : Int → Option (Int × Int)) : Prop :=
  ∃ v' n', HeapAt w' b mb v' n' H ∧ n' ≤ n + 1 ∧ ∀ g, v'.ownBlock = some g → v.ownBlock = some g ∨ w.heap.size ≤ g

theorem push_all {b mb n : Nat} {v : Value} {H : Int → Option (Int × Int)} (a s d : Int) (w : World) (h : HeapAt w b mb v n H) (hc : okC s d) (hwf : (Lit.int .i64 a).wf = true) (hn : n < 1000000) :
    Calls Tryd.prog 80 #[.pointer (some ⟨b, 0, none⟩), .int .i64 a, .agg #[.int .i64 s, .int .i64 d]] w fun e w' => e = .returned (.bool (pushB H a s d)) ∧ HeapTo w w' b mb v n (pushH H a s d) ∧ Keep (hb3 b mb v) w w' := by
  cases ha : H a with
  | none =>
    have e1 : pushB H a s d = true := by unfold pushB; rw [ha]
    have e2 : pushH H a s d = putH H a s d := by unfold pushH; rw [e1]; rfl
    rw [e1, e2]
    exact (push_new a s d w h ha hc hwf hn).mono fun e w' ⟨he, ⟨v', h', hl⟩, K⟩ => ⟨he, ⟨v', n + 1, h', Nat.le_refl _, fun g hg => by
      rcases hl with hl | ⟨g', hl, hg'⟩
      · exact Or.inl (by rw [← hl]; exact hg)
      · rw [hl] at hg; cases hg; exact Or.inr hg'⟩, K⟩
  | some c =>
    obtain ⟨t, u⟩ := c
    by_cases hv : val s d < val t u
    · have e1 : pushB H a s d = true := by unfold pushB; rw [ha]; exact decide_eq_true hv
      have e2 : pushH H a s d = putH H a s d := by unfold pushH; rw [e1]; rfl
      rw [e1, e2]
      exact (push_less a s d t u w h ha hc hv).mono fun e w' ⟨he, h', K⟩ => ⟨he, ⟨v, n, h', Nat.le_succ _, fun g hg => Or.inl hg⟩, K⟩
    · have e1 : pushB H a s d = false := by unfold pushB; rw [ha]; exact decide_eq_false hv
      have e2 : pushH H a s d = H := by unfold pushH; rw [e1]; rfl
      rw [e1, e2]
      exact (push_no a s d t u w h ha hc hv).mono fun e w' ⟨he, hb⟩ => ⟨he, ⟨v, n, h.below hb, Nat.le_succ _, fun g hg => Or.inl hg⟩, Keep.of_below hb⟩

theorem hb3_lt {w : World} {b mb n : Nat} {v : Value} {H : Int → Option (Int × Int)} (h : HeapAt w b mb v n H) {k : Nat} (hk : hb3 b mb v k) : k < w.heap.size := by
  obtain ⟨h1, h2, h3⟩ := h.blocks
  rcases hk with rfl | rfl | hk
  · exact h1
  · exact h2
  · exact h3 k hk
end Go.Proofs.YtfhicijgpdpfpaaDoor
/-
  A flood in memory; those beside a cell are pushed.
-/
namespace Go.Proofs.YtfhicijgpdpfpaaDoor
open Go.RowKit

/-- costs as values -/
def fv (F : Int → Option (Int × Int)) : Int → Option Value := fun a => (F a).map fun c => .agg #[.int .i64 c.1, .int .i64 c.2]
theorem fv_some {F : Int → Option (Int × Int)} {a s d : Int} (h : F a = some (s, d)) : fv F a = some (.agg #[.int .i64 s, .int .i64 d]) := by unfold fv; rw [h]; rfl
theorem fv_none {F : Int → Option (Int × Int)} {a : Int} (h : F a = none) : fv F a = none := by unfold fv; rw [h]; rfl
theorem fv_put (F : Int → Option (Int × Int)) (a s d : Int) : putF (fv F) a (.agg #[.int .i64 s, .int .i64 d]) = fv (putH F a s d) := by
  funext i
  unfold putF fv putH
  by_cases h : i = a
  · rw [if_pos h, if_pos h]; rfl
  · rw [if_neg h, if_neg h]

/-- a flood in block fb: its grid in gb, its costs in cb -/
structure FloodAt (w : World) (fb gb cb : Nat) (W H V : Int) (bl : Nat → Bool) (F : Int → Option (Int × Int)) (n : Nat) : Prop where
  p0 : w.cell? ⟨fb, 0, none⟩ = some (.pointer (some ⟨gb, 0, none⟩))
  p1 : w.cell? ⟨fb, 1, none⟩ = some (.map (some cb))
  ga : GridAt w gb W H V bl
  mp : MapF Tryd.prog 3 w cb (fv F) n
  st : StepsAt w

theorem GridAt.keep {D : Nat → Prop} {w w' : World} {b : Nat} {W H V : Int} {bl : Nat → Bool} (g : GridAt w b W H V bl) (K : Keep D w w') (h : ¬ D b) : GridAt w' b W H V bl := by
  have hb : b < w.heap.size := World.block_lt_of_cell? w _ g.c0
  exact ⟨g.w1, g.w2, g.h1, g.h2, (K.cell (p := ⟨b, 0, none⟩) hb h).trans g.c0, (K.cell (p := ⟨b, 1, none⟩) hb h).trans g.c1, (K.cell (p := ⟨b, 2, none⟩) hb h).trans g.c2, fun i hi => (K.cell (p := ⟨b, 3 + i, none⟩) hb h).trans (g.cs i hi)⟩
theorem StepsAt.pos {w : World} (s : StepsAt w) : 0 < w.heap.size := World.block_lt_of_cell? w _ (s 0 (by decide)).1
theorem StepsAt.keep {D : Nat → Prop} {w w' : World} (s : StepsAt w) (K : Keep D w w') (h : ¬ D 0) : StepsAt w' :=
  fun i hi => ⟨(K.cell (p := ⟨0, 2 * i, none⟩) s.pos h).trans (s i hi).1, (K.cell (p := ⟨0, 2 * i + 1, none⟩) s.pos h).trans (s i hi).2⟩
theorem FloodAt.blocks {w : World} {fb gb cb : Nat} {W H V : Int} {bl : Nat → Bool} {F : Int → Option (Int × Int)} {n : Nat} (f : FloodAt w fb gb cb W H V bl F n) : fb < w.heap.size ∧ gb < w.heap.size ∧ cb < w.heap.size ∧ 0 < w.heap.size :=
  ⟨World.block_lt_of_cell? w _ f.p0, World.block_lt_of_cell? w _ f.ga.c0, f.mp.lt, f.st.pos⟩
theorem FloodAt.keep {D : Nat → Prop} {w w' : World} {fb gb cb : Nat} {W H V : Int} {bl : Nat → Bool} {F : Int → Option (Int × Int)} {n : Nat} (f : FloodAt w fb gb cb W H V bl F n) (K : Keep D w w') (h1 : ¬ D fb) (h2 : ¬ D gb) (h3 : ¬ D cb) (h4 : ¬ D 0) : FloodAt w' fb gb cb W H V bl F n :=
  ⟨(K.cell (p := ⟨fb, 0, none⟩) f.blocks.1 h1).trans f.p0, (K.cell (p := ⟨fb, 1, none⟩) f.blocks.1 h1).trans f.p1, f.ga.keep K h2, f.mp.keep K h3, f.st.keep K h4⟩
theorem FloodAt.below {w w' : World} {fb gb cb : Nat} {W H V : Int} {bl : Nat → Bool} {F : Int → Option (Int × Int)} {n : Nat} (f : FloodAt w fb gb cb W H V bl F n) (hb : Below w.heap.size w w') : FloodAt w' fb gb cb W H V bl F n :=
  f.keep (D := fun _ => False) (Keep.of_below hb) id id id id

theorem Tryd.under113 : Tryd.prog.underlying 85 = some (.map 3 31) := by kernel_rfl
theorem zero43 (w : World) : (zeroValue 31).run Tryd.prog w = .ok (.agg #[.int .i64 0, .int .i64 0]) w := by kernel_rfl

theorem FloodAt.look1 {w : World} {fb gb cb : Nat} {W H V : Int} {bl : Nat → Bool} {F : Int → Option (Int × Int)} {n : Nat} (f : FloodAt w fb gb cb W H V bl F n) {a s d : Int} (ha : (Lit.int .i64 a).wf = true) (h : F a = some (s, d)) :
    (Instr.lookup 85 (.map (some cb)) (.int .i64 a) false).run Tryd.prog w = .ok (.agg #[.int .i64 s, .int .i64 d]) w := f.mp.look_some law3 Tryd.under113 (zero43 _) ha (fv_some h) false

theorem wf_cell {W H c : Int} (w1 : 1 ≤ W) (w2 : W ≤ 16) (h1 : 1 ≤ H) (h2 : H ≤ 16) (h : inB W H c = true) : (Lit.int .i64 c).wf = true := by
  have hc : 0 ≤ c ∧ c < W * H := of_decide_eq_true h
  obtain ⟨k1, k2⟩ := wh_bd w1 w2 h1 h2
  exact WalkArith.wf_i64 (by omega)

theorem moves_b {b : Nat} {W H V c : Int} {bl : Nat → Bool} {l : List Nat} (hl : DirsOf W H bl c l) (w : World) (g : GridAt w b W H V bl) (s : StepsAt w) (hr : inB W H c = true) (hb : b < w.heap.size) :
    Calls Tryd.prog 96 #[.pointer (some ⟨b, 0, none⟩), .int .i64 c] w fun e w' => ∃ A cap, e = .returned (.tuple #[.slice A l.length cap, .nilIface]) ∧ (OldRow w' A l.length (fun i => (l.getD i 0 : Nat)) ∧ ∀ g o, A = some ⟨g, o, none⟩ → w.heap.size ≤ g) ∧ Below w.heap.size w w' :=
  (moves_in c w g s hr hb).mono fun e w' ⟨v, he, hown, hbl⟩ => by
    rw [hl.eq] at hown
    obtain ⟨A, cap, rfl, hrow⟩ := row_of hown
    refine ⟨A, cap, he, ⟨hrow, fun g o e => ?_⟩, hbl⟩
    rcases hown.2 with ⟨hv, _⟩ | ⟨g', cap', cur, hv, hg, _⟩
    · simp only [Value.slice.injEq] at hv
      rw [hv.1] at e; cases e
    · simp only [Value.slice.injEq] at hv
      rw [hv.1] at e; cases e; exact hg

/-- those beside a cell have been pushed -/
def Beside (w w' : World) (b mb : Nat) (v : Value) (nh : Nat) (E : Int → Nat → Int → Prop) (o : Int) (F : Int → Option (Int × Int)) (D : Int → Nat → Prop) (N k : Nat) : Prop :=
  ∃ v' nh' H', HeapAt w' b mb v' nh' H' ∧ nh' ≤ nh + k ∧ Dij E o F H' D N ∧ (∀ g, v'.ownBlock = some g → v.ownBlock = some g ∨ w.heap.size ≤ g) ∧ Keep (hb3 b mb v) w w'

set_option maxHeartbeats 2000000 in
set_option maxRecDepth 1000000 in
theorem pushBeside_any {fb gb cb b mb n nh N : Nat} {W H V : Int} {bl : Nat → Bool} {F Hh : Int → Option (Int × Int)} {v : Value} {o : Int} (c s d : Int) (w : World) (FA : FloodAt w fb gb cb W H V bl F n) (HA : HeapAt w b mb v nh Hh) (hin : inB W H c = true) (hFc : F c = some (s, d))
    (apart : ∀ k, hb3 b mb v k → k ≠ fb ∧ k ≠ gb ∧ k ≠ cb ∧ k ≠ 0) (DJ : Dij (Edge W H bl) o F Hh (fun x _ => x ≠ c) (N + 1)) (mx : ∀ {x t u}, F x = some (t, u) → val t u ≤ val s d) (hv : val s d ≤ N * 54608393) (hN : N ≤ 256) (hnh : nh ≤ 900000) :
    Calls Tryd.prog 83 #[.pointer (some ⟨fb, 0, none⟩), .pointer (some ⟨b, 0, none⟩), .int .i64 c] w fun e w' => e = .returned (.tuple #[]) ∧ Beside w w' b mb v nh (Edge W H bl) o F (fun _ _ => True) (N + 1) 8 := by
  obtain ⟨l, hl⟩ := dirsOf (W := W) (H := H) bl c FA.ga.w1
  obtain ⟨hfb, hgb, hcb, h00⟩ := FA.blocks
  have w1 := FA.ga.w1
  have w2 := FA.ga.w2
  have h1 := FA.ga.h1
  have h2 := FA.ga.h2
  have hc : 0 ≤ c ∧ c < W * H := of_decide_eq_true hin
  have hWH := wh_bd w1 w2 h1 h2
  have hs0 := (DJ.sF hFc).1.nonneg
  have hsm := val_small hs0.1 hs0.2 (by omega)
  have hwc := wf_cell w1 w2 h1 h2 hin
  have p0 := FA.p0
  have hlen := hl.len
  go_enter Tryd.func83, Tryd.ntmps83
  go_wp2_with (go_at_call 96; refine (moves_b hl _ FA.ga FA.st hin hgb).mono ?_)
  rintro e wa ⟨A, cap, rfl, ⟨hrow, hnew⟩, hba⟩
  have hza := hba.size
  have FAa := FA.below hba
  have HAa := HA.below hba
  go_wp2
  go_loopw [24] (fun i wr => ∃ k : Nat, k ≤ l.length ∧ i = .int .i64 k ∧ Beside wa wr b mb v nh (Edge W H bl) o F (fun x j => x ≠ c ∨ j ∈ l.take k) (N + 1) k) (fun i _ => l.length - (intOf i).toNat)
  case atStart => exact ⟨0, Nat.zero_le _, rfl, v, nh, Hh, HAa, by omega, DJ.widen (fun _ _ h => by rcases h with h | h; exact h; simp at h), fun g hg => Or.inl hg, Keep.refl _ _⟩
  case round =>
    obtain ⟨k, hk, rfl, v', nh', H', HA', hn', DJ', hown', K'⟩ := hrel
    have apart' : ∀ i, hb3 b mb v' i → i ≠ fb ∧ i ≠ gb ∧ i ≠ cb ∧ i ≠ 0 := by
      rintro i (rfl | rfl | hi)
      · exact apart _ (Or.inl rfl)
      · exact apart _ (Or.inr (Or.inl rfl))
      · rcases hown' i hi with h | h
        · exact apart _ (Or.inr (Or.inr h))
        · omega
    have FA' := FAa.keep K' (fun h => (apart _ h).1 rfl) (fun h => (apart _ h).2.1 rfl) (fun h => (apart _ h).2.2.1 rfl) (fun h => (apart _ h).2.2.2 rfl)
    by_cases hlt : k < l.length
    · have hlt' : (k : Int) < (l.length : Int) := by omega
      obtain ⟨bs, os, rfl, hbs, hcell⟩ := hrow k hlt
      have hbn := hnew bs os rfl
      have hbk : ¬ hb3 b mb v bs := fun h => by have := hb3_lt HA h; omega
      have hcw : wr.cell? ⟨bs, os + k, none⟩ = some (.int .i64 ((l.getD k 0 : Nat) : Int)) := (K'.cell (p := ⟨bs, os + k, none⟩) hbs hbk).trans hcell
      clear hcell
      have hdk := hl.lt k hlt
      have hmay : mayB W H bl (c % W) (c / W) (l.getD k 0) = true := by
        have h0 : k < (mvs W H bl (c % W) (c / W) 8).length := by rw [hl.eq]; exact hlt
        have := (mvs_at h0).2
        rw [hl.eq] at this
        exact this
      have hed : Edge W H bl c (l.getD k 0) (c + (stepY (l.getD k 0) * W + stepX (l.getD k 0))) := ⟨hdk, hin, hmay, rfl⟩
      have hti := hed.in' w1
      have htake : ∀ j, j ∈ l.take (k + 1) → j ∈ l.take k ∨ j = l.getD k 0 := fun j hj => by
        rw [List.take_succ_eq_append_getElem hlt, List.mem_append, List.mem_singleton] at hj
        rcases hj with hj | hj
        · exact Or.inl hj
        · right; rw [getD_at _ _ hlt]; exact hj
      have hwt := wf_cell w1 w2 h1 h2 hti
      generalize l.getD k 0 = dk at *
      obtain ⟨t, ht⟩ : ∃ t, c + (stepY dk * W + stepX dk) = t := ⟨_, rfl⟩
      have q0 := FA'.p0
      have q1 := FA'.p1
      have hgb' := Nat.lt_of_lt_of_le (Nat.lt_of_lt_of_le hgb hza) K'.size
      cases hFt : F t with
      | some ct =>
        obtain ⟨ts, td⟩ := ct
        have DJ2 : Dij (Edge W H bl) o F H' (fun x j => x ≠ c ∨ j ∈ l.take (k + 1)) (N + 1) := by
          refine (DJ'.pass (b := t) (k := dk) hFc mx (by rw [hFt]; simp) (fun e h => by rw [← ht]; exact hed.one e h)).widen (fun {x j y s' d'} _ _ h => ?_)
          by_cases hx : x = c
          · rcases h with h | h
            · exact absurd hx h
            · rcases htake j h with h | h
              · exact Or.inl (Or.inr h)
              · exact Or.inr ⟨hx, h⟩
          · exact Or.inl (Or.inl hx)
        have HFt : Hid _ := hFt
        clear hFt DJ' htake
        go_wp2_with fail
        refine (to_v ht _ FA'.ga FA'.st hdk (by omega) (by omega)).mono ?_
        rintro e w' ⟨rfl, m, rfl⟩
        have HBm := below_drewN (Below.refl wr.heap.size wr) m
        have FA1 := FA'.below HBm
        have HA1 := HA'.below HBm
        have K1 := K'.below HBm
        clear FA' HA' K' HBm q0 q1 hcw hgb'
        generalize wr.drewN m = W1 at *
        have q1 := FA1.p1
        have hlook : (Instr.lookup 85 (.map (some cb)) (.int .i64 t) true).run Tryd.prog W1 = .ok (.tuple #[.agg #[.int .i64 ts, .int .i64 td], .bool true]) W1 := FA1.mp.look_some law3 Tryd.under113 (zero43 _) (by rw [← ht]; exact hwt) (fv_some HFt.out) true
        have HB2 : Below W1.heap.size W1 (W1.alloc (.cells #[.int .i64 ts, .int .i64 td] 31)) := (Below.refl _ _).alloc (Nat.le_refl _) _
        go_wp2
        go_roundw
        case rel => exact ⟨k + 1, by omega, by go_num, v', nh', H', HA1.below HB2, by omega, DJ2, hown', K1.below HB2⟩
        case measure => simp [intOf]; omega
      | none =>
        have hst := st_bd dk
        have hok : okC (s + stS dk) (d + stD dk) := by unfold okC; omega
        have hok1 : okC s d := by unfold okC; omega
        have hok2 : okC (stS dk) (stD dk) := by unfold okC; omega
        have DJ2 : Dij (Edge W H bl) o F (pushH H' t (s + stS dk) (d + stD dk)) (fun x j => x ≠ c ∨ j ∈ l.take (k + 1)) (N + 1) := by
          rw [ht] at hed
          refine (DJ'.push (b := t) (k := dk) hFc mx hv hed hFt (pushed H' t _ _) (fun e h => hed.one e h)).widen (fun {x j y s' d'} _ _ h => ?_)
          by_cases hx : x = c
          · rcases h with h | h
            · exact absurd hx h
            · rcases htake j h with h | h
              · exact Or.inl (Or.inr h)
              · exact Or.inr ⟨hx, h⟩
          · exact Or.inl (Or.inl hx)
        have HFt : Hid _ := hFt
        have HFc : Hid _ := hFc
        clear hFt DJ' htake
        go_wp2_with fail
        refine (to_v ht _ FA'.ga FA'.st hdk (by omega) (by omega)).mono ?_
        rintro e w' ⟨rfl, m, rfl⟩
        have HBm := below_drewN (Below.refl wr.heap.size wr) m
        have FA1 := FA'.below HBm
        have HA1 := HA'.below HBm
        have K1 := K'.below HBm
        clear FA' HA' K' HBm q0 q1 hcw hgb'
        generalize wr.drewN m = W1 at *
        have q1 := FA1.p1
        have hlook : (Instr.lookup 85 (.map (some cb)) (.int .i64 t) true).run Tryd.prog W1 = .ok (.tuple #[.agg #[.int .i64 0, .int .i64 0], .bool false]) W1 := FA1.mp.look_none law3 Tryd.under113 (zero43 _) (by rw [← ht]; exact hwt) (fv_none HFt.out) true
        have HB2 : Below W1.heap.size W1 (W1.alloc (.cells #[.int .i64 0, .int .i64 0] 31)) := (Below.refl _ _).alloc (Nat.le_refl _) _
        have FA2 := FA1.below HB2
        have HA2 := HA1.below HB2
        have K2 := K1.below HB2
        go_wp2
        clear hlook FA1 HA1 K1 HB2 q1
        generalize W1.alloc (.cells #[.int .i64 0, .int .i64 0] 31) = W2 at *
        have FAd : FloodAt W2.drew fb gb cb W H V bl F n := FA2.below (Below.refl _ _).drew
        have HAd : HeapAt W2.drew b mb v' nh' H' := HA2.below (Below.refl _ _).drew
        have Kd : Keep (hb3 b mb v) wa W2.drew := K2.drew
        have c1 := FAd.p1
        have l1 := FAd.look1 hwc HFc.out
        clear FA2 HA2 K2
        have hwt' : (Lit.int .i64 t).wf = true := by rw [← ht]; exact hwt
        go_region_held3 (fun w' => w'.cell? ⟨fb, 1, none⟩ = some (.map (some cb)) ∧ (Instr.lookup 85 (.map (some cb)) (.int .i64 c) false).run Tryd.prog w' = .ok (.agg #[.int .i64 s, .int .i64 d]) w') (first | (exact ⟨c1, l1⟩)) (first | (go_at_call 47; refine (stepCost_any dk _ FAd.st hdk).mono ?_; rintro e w3 ⟨rfl, hb3'⟩; have FAd := FAd.below hb3'; have HAd := HAd.below hb3'; have Kd := Kd.below hb3'; have c1 := FAd.p1; have l1 := FAd.look1 hwc HFc.out) | (go_at_call 27; refine (add_any s d (stS dk) (stD dk) _ hok1 hok2).mono ?_; rintro e w3 ⟨rfl, hb3'⟩; have FAd := FAd.below hb3'; have HAd := HAd.below hb3'; have Kd := Kd.below hb3'; have c1 := FAd.p1; have l1 := FAd.look1 hwc HFc.out) | (go_at_call 80; refine (push_all t (s + stS dk) (d + stD dk) _ HAd hok hwt' (by omega)).mono ?_; rintro e w5 ⟨rfl, T5, K5⟩; have FA5 := FAd.keep K5 (fun h => (apart' _ h).1 rfl) (fun h => (apart' _ h).2.1 rfl) (fun h => (apart' _ h).2.2.1 rfl) (fun h => (apart' _ h).2.2.2 rfl); have c1 := FA5.p1; have l1 := FA5.look1 hwc HFc.out))
        all_goals
          obtain ⟨v5, nh5, HA5, hn5, ho5⟩ := T5
          have hzd := Kd.size
          have HB5 : Beside wa w5 b mb v nh (Edge W H bl) o F (fun x j => x ≠ c ∨ j ∈ l.take (k + 1)) (N + 1) (k + 1) := by
            refine ⟨v5, nh5, _, HA5, by omega, DJ2, fun g hg => ?_, Kd.trans K5 (fun i hi h => ?_)⟩
            · rcases ho5 g hg with h | h
              · exact hown' g h
              · exact Or.inr (by omega)
            · rcases h with h | h | h
              · exact Or.inl h
              · exact Or.inr (Or.inl h)
              · rcases hown' i h with h | h
                · exact Or.inr (Or.inr h)
                · omega
          clear FAd HAd Kd FA5 K5 HA5 DJ2 ho5 hn5 c1 l1
          go_wp2
          go_roundw
          case rel => exact ⟨k + 1, by omega, by go_num, HB5⟩
          case measure => simp [intOf]; omega
    · have hlt' : ¬ (k : Int) < (l.length : Int) := by omega
      have HK : Hid (k = l.length) := by show k = l.length; omega
      have HF : Beside w wr b mb v nh (Edge W H bl) o F (fun _ _ => True) (N + 1) 8 := by
        refine ⟨v', nh', H', HA', by omega, DJ'.widen (fun {a j b' s' d'} hF e _ => ?_), fun g hg => ?_, (Keep.of_below hba).trans K' (fun _ _ h => h)⟩
        · by_cases ha : a = c
          · right
            rw [HK.out, List.take_length, ← hl.eq]
            subst ha
            exact mem_mvs.mpr ⟨e.1, e.2.2.1⟩
          · exact Or.inl ha
        · rcases hown' g hg with h | h
          · exact Or.inl h
          · exact Or.inr (by omega)
      clear DJ' HA' FA' K' hown'
      go_wp2
      go_end0
      exact ⟨rfl, HF⟩
end Go.Proofs.YtfhicijgpdpfpaaDoor
/-
  A flood spreads: what each cell costs at least.
-/
namespace Go.Proofs.YtfhicijgpdpfpaaDoor
open Go.RowKit

theorem wk_in {W H : Int} {bl : Nat → Bool} {o a s d : Int} (w1 : 1 ≤ W) (ho : inB W H o = true) (h : Wk (Edge W H bl) o a s d) : inB W H a = true :=
  h.ind (R := fun a _ _ => inB W H a = true) ho (fun _ _ _ _ _ _ _ e => e.in' w1)

theorem FloodAt.ne {w : World} {fb gb cb : Nat} {W H V : Int} {bl : Nat → Bool} {F : Int → Option (Int × Int)} {n : Nat} (f : FloodAt w fb gb cb W H V bl F n) : ¬ fb = cb ∧ ¬ gb = cb ∧ ¬ 0 = cb := by
  refine ⟨fun e => ?_, fun e => ?_, fun e => ?_⟩
  · have h := f.mp.cell 0
    rw [← e, f.p0] at h; cases h
  · have h := f.mp.cell 0
    rw [← e, f.ga.c0] at h; cases h
  · have h := f.mp.cell 0
    have g := (f.st 0 (by decide)).1
    rw [← e, g] at h; cases h

/-- a flood that has spread -/
def Spread (w w' : World) (fb gb cb : Nat) (W H V : Int) (bl : Nat → Bool) (o : Int) : Prop :=
  ∃ F, FloodAt w' fb gb cb W H V bl F (cnt F (W * H).toNat) ∧ Best (Edge W H bl) o F ∧ Keep (fun k => k = cb) w w'

/-- .. under way -/
def Spr (w wr : World) (fb gb cb : Nat) (W H V : Int) (bl : Nat → Bool) (o : Int) (n : Nat) : Prop :=
  ∃ F Hh v nh, FloodAt wr fb gb cb W H V bl F n ∧ HeapAt wr (w.heap.size + 1) w.heap.size v nh Hh ∧ Dij (Edge W H bl) o F Hh (fun _ _ => True) n ∧ cnt F (W * H).toNat = n ∧ nh ≤ 1 + 8 * n ∧ (∀ g, v.ownBlock = some g → w.heap.size ≤ g) ∧ Keep (fun k => k = cb) w wr

set_option maxHeartbeats 2000000 in
set_option maxRecDepth 1000000 in
theorem spread_any {fb gb cb : Nat} {W H V : Int} {bl : Nat → Bool} (o : Int) (w : World) (FA : FloodAt w fb gb cb W H V bl (fun _ => none) 0) (hin : inB W H o = true) :
    Calls Tryd.prog 50 #[.pointer (some ⟨fb, 0, none⟩), .int .i64 o] w fun e w' => e = .returned (.tuple #[]) ∧ Spread w w' fb gb cb W H V bl o := by
  obtain ⟨hfb, hgb, hcb, h00⟩ := FA.blocks
  have w1 := FA.ga.w1
  have w2 := FA.ga.w2
  have h1 := FA.ga.h1
  have h2 := FA.ga.h2
  have hWH := wh_bd w1 w2 h1 h2
  have hwo := wf_cell w1 w2 h1 h2 hin
  have hok0 : okC 0 0 := by unfold okC; omega
  have hapart : ∀ (v : Value), (∀ g, v.ownBlock = some g → w.heap.size ≤ g) → ∀ k, hb3 (w.heap.size + 1) w.heap.size v k → w.heap.size ≤ k := by
    intro v hv k hk
    rcases hk with rfl | rfl | hk
    · omega
    · omega
    · exact hv k hk
  go_enter Tryd.func50, Tryd.ntmps50
  go_wp2_with fail
  refine (new_any _).mono ?_
  rintro e wa ⟨rfl, HA, hba, hsa⟩
  go_wp2_with fail
  refine (push_new o 0 0 _ HA rfl hok0 hwo (by omega)).mono ?_
  rintro e wb ⟨rfl, ⟨vb, HB, hob⟩, Kb⟩
  have hst : Spr w wb fb gb cb W H V bl o 0 := by
    have KA : Keep (fun k => k = cb) w wa := Keep.of_below hba
    refine ⟨fun _ => none, _, vb, 1, (FA.below hba).keep Kb ?_ ?_ ?_ ?_, HB, Dij.start _ o, cnt_none _, by omega, fun g hg => ?_, KA.trans Kb (fun i hi h => ?_)⟩
    · intro h; have := hapart _ (fun g hg => by cases hg) _ h; omega
    · intro h; have := hapart _ (fun g hg => by cases hg) _ h; omega
    · intro h; have := hapart _ (fun g hg => by cases hg) _ h; omega
    · intro h; have := hapart _ (fun g hg => by cases hg) _ h; omega
    · rcases hob with h | ⟨g', h, hg'⟩
      · rw [h] at hg; cases hg
      · rw [h] at hg; cases hg; omega
    · have := hapart _ (fun g hg => by cases hg) _ h; omega
  clear HA HB Kb hob hba FA
  go_wp2
  go_loopg [5] 257 (fun q _ wr => ∃ n : Nat, n ≤ 256 ∧ q = 257 - n ∧ Spr w wr fb gb cb W H V bl o n)
  case atStart => exact ⟨0, by omega, rfl, hst⟩
  case round =>
    clear hst
    obtain ⟨n, hn, hq, F, Hh, v, nh, FA, HA, DJ, hcnt, hnh, hown, K⟩ := hrel
    have HQ : Hid (gk = 257 - n) := hq
    clear hq
    cases nh with
    | zero =>
      have HS : Spread w wr fb gb cb W H V bl o := ⟨F, by rw [hcnt]; exact FA, DJ.done (fun a => HA.empty a) hn, K⟩
      go_wp2_with (go_at_call 81; refine (len_any _ HA).mono ?_; rintro e w' ⟨rfl, rfl⟩)
      go_end0
      exact ⟨rfl, HS⟩
    | succ m =>
      have hm1 : (0 : Int) < ((m + 1 : Nat) : Int) := by omega
      go_wp2_with (go_at_call 81; refine (len_any _ HA).mono ?_; rintro e w' ⟨rfl, rfl⟩)
      refine (pop_one _ HA).mono ?_
      rintro e w5 ⟨a, s, d, rfl, hHa, hmin, ⟨v5, HA5, ho5⟩, K5⟩
      have hle : ∀ {b t u}, Hh b = some (t, u) → val s d ≤ val t u := fun {b t u} hb => by
        have := hmin b t u hb
        unfold bef Item.v at this
        simp only at this
        omega
      obtain ⟨DJ2, hFa, hmx⟩ := DJ.pop hHa hle
      obtain ⟨hwk, hva⟩ := DJ.sH hHa
      have hina := wk_in w1 hin hwk
      have hca : 0 ≤ a ∧ a < W * H := of_decide_eq_true hina
      have hwa := wf_cell w1 w2 h1 h2 hina
      have hcnt2 : cnt (putH F a s d) (W * H).toNat = n + 1 := by rw [cnt_put F a s d _ hca.1 (by omega) hFa, hcnt]
      have hn1 : n + 1 ≤ 256 := by have := cnt_le (putH F a s d) (W * H).toNat; omega
      obtain ⟨hne1, hne2, hne3⟩ := FA.ne
      have hz := K.size
      have hfar := hapart v hown
      have hown5 : ∀ g, v5.ownBlock = some g → w.heap.size ≤ g := fun g hg => hown g (by rw [← ho5]; exact hg)
      have hfar5 := hapart v5 hown5
      have FA5 := FA.keep K5 (fun h => by have := hfar _ h; omega) (fun h => by have := hfar _ h; omega) (fun h => by have := hfar _ h; omega) (fun h => by have := hfar _ h; omega)
      have KB : Keep (fun k => k = cb) w w5 := K.trans K5 (fun i hi h => by have := hfar _ h; omega)
      have HB6 : Below w5.heap.size w5 (w5.alloc (.cells #[.int .i64 s, .int .i64 d] 31)) := (Below.refl _ _).alloc (Nat.le_refl _) _
      have FA6 := FA5.below HB6
      have HA6 := HA5.below HB6
      have K6 := KB.below HB6
      have b0 := World.cell?_alloc_at (w := w5) #[.int .i64 s, .int .i64 d] 31 w5.heap.size 0 rfl
      have b1 := World.cell?_alloc_at (w := w5) #[.int .i64 s, .int .i64 d] 31 w5.heap.size 1 rfl
      clear FA HA K5 FA5 HA5 KB HB6 hmin hle DJ K
      go_wp2
      generalize w5.alloc (.cells #[.int .i64 s, .int .i64 d] 31) = W6 at *
      have q1 := FA6.p1
      obtain ⟨w7, hrun, M7, T7⟩ := (FA6.mp.kept (w' := W6.drew) rfl).store law3 Tryd.under113 (by unfold maxLen; omega) hwa (.agg #[.int .i64 s, .int .i64 d])
      have em : (if (fv F a).isSome then n else n + 1) = n + 1 := by rw [fv_none hFa]; rfl
      rw [fv_put, em] at M7
      have K7 : Keep (fun k => k = cb) W6 w7 := (Keep.refl (fun k => k = cb) W6).drew.trans (turned_keep T7) (fun _ _ h => h)
      have FA7 : FloodAt w7 fb gb cb W H V bl (putH F a s d) (n + 1) := by
        obtain ⟨j1, j2, j3, j4⟩ := FA6.blocks
        exact ⟨(K7.cell (p := ⟨fb, 0, none⟩) j1 hne1).trans FA6.p0, (K7.cell (p := ⟨fb, 1, none⟩) j1 hne1).trans FA6.p1, FA6.ga.keep K7 hne2, M7, FA6.st.keep K7 hne3⟩
      have HA7 := HA6.keep K7 (by omega) (by omega) (fun g hg => by have := hown5 g hg; omega)
      have KC := K6.trans K7 (fun _ _ h => h)
      clear M7 T7 K7 FA6 HA6 K6
      go_region
      clear hrun b0 b1 q1
      go_wp2_with fail
      refine (pushBeside_any a s d _ FA7 HA7 hina (if_pos rfl) (fun k h => by have := hfar5 k h; omega) DJ2 hmx hva (by omega) (by omega)).mono ?_
      rintro e w8 ⟨rfl, v8, nh8, H8, HA8, hn8, DJ8, ho8, K8⟩
      have HS : Spr w w8 fb gb cb W H V bl o (n + 1) := by
        refine ⟨_, H8, v8, nh8, FA7.keep K8 (fun h => by have := hfar5 _ h; omega) (fun h => by have := hfar5 _ h; omega) (fun h => by have := hfar5 _ h; omega) (fun h => by have := hfar5 _ h; omega), HA8, DJ8, hcnt2, by omega, fun g hg => ?_, KC.trans K8 (fun i hi h => by have := hfar5 _ h; omega)⟩
        rcases ho8 g hg with h | h
        · exact hown5 g h
        · have := KC.size; omega
      clear FA7 HA7 HA8 DJ8 DJ2 K8 KC
      go_wp2
      go_roundg (257 - (n + 1))
      case measure => have := HQ.out; omega
      case rel => exact ⟨n + 1, hn1, rfl, HS⟩
end Go.Proofs.YtfhicijgpdpfpaaDoor
