/-
  Texts laid together: CornerW, RGraph, ToSr.
-/
import Derived.Test.YtmnpplkjhnoglaaGreatDoorP44
import Derived.Deep.RegionHeld3
import Derived.Deep.CutRange
/-
  The walk of 'CornerSays'.
-/
namespace Go.Proofs.YtmnpplkjhnoglaaGreatDoor
open Go.RowKit

theorem StepsAt.pos' {w : World} (s : StepsAt w) : 0 < w.heap.size := World.block_lt_of_cell? w _ (s 0 (by decide)).1
theorem all_v {b : Nat} {W H V : Int} {bl : Nat → Bool} {l : List Nat} (hl : crs W H bl (W * H).toNat = l) (w : World) (g : GridAt w b W H V bl) (s : StepsAt w) (hb : b < w.heap.size) :
    Calls Tryz.prog 45 #[.pointer (some ⟨b, 0, none⟩)] w fun e w' => ∃ A cap, e = .returned (.slice A l.length cap) ∧ OldRow w' A l.length (fun i => (l.getD i 0 : Nat)) ∧ Below w.heap.size w w' :=
  (all_any w g s hb).mono fun e w' ⟨v, he, hown, hbl⟩ => by
    rw [hl] at hown
    obtain ⟨A, cap, rfl, hrow⟩ := row_of hown
    exact ⟨A, cap, he, hrow, hbl⟩
theorem rcorners_v {b : Nat} {W H V : Int} {bl : Nat → Bool} {l : List Nat} (hl : crs W H bl (W * H).toNat = l) (w : World) (g : RefAt w b W H V bl) (hb : b < w.heap.size) :
    Calls Tryz.prog 49 #[.pointer (some ⟨b, 0, none⟩)] w fun e w' => ∃ A cap, e = .returned (.slice A l.length cap) ∧ OldRow w' A l.length (fun i => (l.getD i 0 : Nat)) ∧ Below w.heap.size w w' :=
  (rcorners_any w g hb).mono fun e w' ⟨v, he, hown, hbl⟩ => by
    rw [hl] at hown
    obtain ⟨A, cap, rfl, hrow⟩ := row_of hown
    exact ⟨A, cap, he, hrow, hbl⟩

theorem four_row (w : World) : OldRow (w.alloc (.cells #[.int .i64 0, .int .i64 2, .int .i64 6, .int .i64 8] 3)) (some ⟨w.heap.size, 0, none⟩) 4 (fun i => (([0, 2, 6, 8] : List Nat).getD i 0 : Nat)) := fun i hi => by
  refine ⟨w.heap.size, 0, rfl, by simp, ?_⟩
  rw [Nat.zero_add]
  have hk : i = 0 ∨ i = 1 ∨ i = 2 ∨ i = 3 := by omega
  rcases hk with rfl | rfl | rfl | rfl <;> exact World.cell?_alloc_at #[.int .i64 0, .int .i64 2, .int .i64 6, .int .i64 8] 3 w.heap.size _ rfl

theorem boxedC (w : World) (W H : Int) (A : Option Addr) (n cap : Nat) {wa : World}
    (hb : Below (w.alloc (.cells #[.int .i64 W, .int .i64 H, .slice A n cap] 24)).heap.size (w.alloc (.cells #[.int .i64 W, .int .i64 H, .slice A n cap] 24)) wa) :
    wa.cell? ⟨w.heap.size, 0, none⟩ = some (.int .i64 W) ∧ wa.cell? ⟨w.heap.size, 1, none⟩ = some (.int .i64 H) ∧ wa.cell? ⟨w.heap.size, 2, none⟩ = some (.slice A n cap) := by
  have h : ∀ o, wa.cell? ⟨w.heap.size, o, none⟩ = #[Value.int .i64 W, .int .i64 H, .slice A n cap][o]? := fun o => by
    rw [hb.cell (p := ⟨w.heap.size, o, none⟩) (by simp), World.cell?_alloc_new]
  exact ⟨h 0, h 1, h 2⟩

end Go.Proofs.YtmnpplkjhnoglaaGreatDoor
/-
  The reference's rays of all corners, and 'Connected'.
-/
namespace Go.Proofs.YtmnpplkjhnoglaaGreatDoor
open Go.RowKit

theorem Tryz.und89 : Tryz.prog.underlying 101 = some (.slice 103) := by kernel_rfl
theorem info_ray : ∃ (ie : TypeInfo) (z : Value), Tryz.prog.info? 103 = some ie ∧ ie.zero = some z ∧ ie.size = 769 ∧ ie.bytes = 4360 ∧ z.cells.size = 769 := by
  have h1 : (Tryz.prog.info? 103).map (·.size) = some 769 := info112
  have h2 : (Tryz.prog.info? 103).map (·.bytes) = some 4360 := by kernel_rfl
  have h3 : ((Tryz.prog.info? 103).bind (·.zero)).map (·.cells.size) = some 769 := by kernel_rfl
  cases hie : Tryz.prog.info? 103 with
  | none => rw [hie] at h1; cases h1
  | some ie =>
    rw [hie] at h1 h2 h3
    cases hz : ie.zero with
    | none => rw [Option.bind_some, hz] at h3; cases h3
    | some z =>
      rw [Option.bind_some, hz] at h3
      exact ⟨ie, z, rfl, hz, Option.some.inj h1, Option.some.inj h2, Option.some.inj h3⟩
/-- one ray as a row of its own -/
theorem wpList_build_ray {ops : Array Oper} {rest : List Oper} {o : Oper} {a : Act} {w : World} {Q : Exit → Act → World → Prop} (hgd : o.guard = none) (x : Operand) (ho : o.op = .buildSlice 101 1 #[(0, x)]) (RL : List Value) (lR : RL.length = 769) (hx : a.eval x = .agg RL.toArray)
    (h : wpList Tryz.prog ops Q rest (a.put o.dst (.slice (some ⟨w.heap.size, 0, none⟩) 1 1)) (w.alloc (.cells RL.toArray 103))) : wpList Tryz.prog ops Q (o :: rest) a w := by
  obtain ⟨ie, z, hie, hz, hsz, hby, hzs⟩ := info_ray
  refine wpList_buildSlice hgd 101 103 1 #[(0, x)] ho RL.toArray ie z Tryz.und89 hie hz (by rw [hsz]; decide) (by rw [hsz]; decide) ?_ h
  have e0 : ((#[(0, x)] : Array (Nat × Operand)).map fun (i, x) => (i, a.eval x)).toList = (([a.eval x] : List Value).zipIdx 0).map fun x => (x.2, x.1) := by simp
  rw [e0, hx, hsz]
  have := Great.fill_whole (s := 769) (by decide) [Value.agg RL.toArray] ((Array.range (1 * 769)).map (z.cells[· % z.cells.size]!)) (fun v hv => by
    rw [List.mem_singleton] at hv
    rw [hv]
    show RL.toArray.size = 769
    rw [List.size_toArray, lR]) (by simp)
  have e1 : ([Value.agg RL.toArray].flatMap fun v => v.cells.toList) = RL := by
    rw [List.flatMap_cons, List.flatMap_nil, List.append_nil]
    rfl
  rw [e1] at this
  exact this

theorem best_ex {b : Nat} {W H V : Int} {bl : Nat → Bool} (w : World) (g : RefAt w b W H V bl) {c : Int} (hr : inB W H c = true) : ∃ F, Best (Edge W H bl) c F := by
  have hc : 0 ≤ c ∧ c < W * H := of_decide_eq_true hr
  obtain ⟨n, rfl⟩ : ∃ n : Nat, c = n := ⟨c.toNat, by omega⟩
  obtain ⟨e, w', fr, h, _⟩ := rflood_any n w g (World.block_lt_of_cell? _ _ g.c0) hr []
  obtain ⟨F, _, hB, _⟩ := h
  exact ⟨F, hB⟩
theorem bests_ex {b : Nat} {W H V : Int} {bl : Nat → Bool} (w : World) (g : RefAt w b W H V bl) : ∃ Fl : Int → Int → Option (Int × Int), ∀ c, CornC W H bl c → Best (Edge W H bl) c (Fl c) := by
  have h : ∀ c, ∃ F, CornC W H bl c → Best (Edge W H bl) c F := fun c => by
    by_cases hc : CornC W H bl c
    · obtain ⟨F, hF⟩ := best_ex w g (cornC_in g.w1 hc)
      exact ⟨F, fun _ => hF⟩
    · exact ⟨fun _ => none, fun h => absurd h hc⟩
  exact ⟨fun c => Classical.choose (h c), fun c => Classical.choose_spec (h c)⟩
/-- the ray of a corner -/
theorem from_c {M : Nat} {W H V : Int} {bl : Nat → Bool} {F : Int → Option (Int × Int)} (c : Nat) (w : World) (g : RefAt w M W H V bl) (hml : M < w.heap.size) (hr : inB W H c = true) (hF : Best (Edge W H bl) c F) :
    Calls Tryz.prog 50 #[.pointer (some ⟨M, 0, none⟩), .int .i64 (c : Int)] w fun e w' => e = .returned (.agg (rayL c F).toArray) ∧ Below w.heap.size w w' :=
  (from_any c w g hml hr).mono fun e w' ⟨G, he, hG, hb⟩ => ⟨by rw [he, hF.unique hG], hb⟩
theorem take_flat {L : List Nat} {i : Nat} (h : i < L.length) (R : Nat → List Value) : (L.take (i + 1)).flatMap R = (L.take i).flatMap R ++ R (L.getD i 0) := by
  rw [List.take_succ_eq_append_getElem h, List.flatMap_append, ← getD_at _ _ h]
  simp

theorem Upto.all {W H : Int} {bl : Nat → Bool} {P : Nat → Prop} {l : List Nat} (h : Upto (crs W H bl (W * H).toNat) P (crs W H bl (W * H).toNat).length l) (n : Nat) : n ∈ l ↔ n ∈ crs W H bl (W * H).toNat ∧ P n := by
  rw [h.2 n]
  constructor
  · rintro ⟨j, hj, e, hp⟩
    exact ⟨by rw [← e, getD_at _ _ hj]; exact List.getElem_mem hj, hp⟩
  · rintro ⟨hm, hp⟩
    obtain ⟨j, hj, e⟩ := List.getElem_of_mem hm
    exact ⟨j, hj, by rw [getD_at _ _ hj, e], hp⟩
theorem in_crs {W H : Int} {bl : Nat → Bool} (w1 : 1 ≤ W) {n : Nat} : n ∈ crs W H bl (W * H).toNat ↔ cornB W H bl (n : Int) = true := by
  rw [crs_mem]
  constructor
  · exact fun h => h.2
  · intro h
    have h3 : 0 ≤ (n : Int) ∧ (n : Int) < W * H := of_decide_eq_true (cornC_in w1 (cornB_iff.1 h))
    exact ⟨by omega, h⟩

end Go.Proofs.YtmnpplkjhnoglaaGreatDoor
/-
  What 'TopSearch' does at every plot: it answers true.
-/
namespace Go.Proofs.YtmnpplkjhnoglaaGreatDoor
open Go.RowKit

theorem fl_ex {b : Nat} {W H V : Int} {bl : Nat → Bool} (w : World) (g : RefAt w b W H V bl) : ∃ Fl : Int → Int → Option (Int × Int), ∀ c, inB W H c = true → Best (Edge W H bl) c (Fl c) := by
  have h : ∀ c, ∃ F, inB W H c = true → Best (Edge W H bl) c F := fun c => by
    by_cases hc : inB W H c = true
    · obtain ⟨F, hF⟩ := best_ex w g hc
      exact ⟨F, fun _ => hF⟩
    · exact ⟨fun _ => none, fun h => absurd h hc⟩
  exact ⟨fun c => Classical.choose (h c), fun c hc => Classical.choose_spec (h c) hc⟩
theorem row9 {w : World} {b : Nat} {k : Int} (h : ∀ o, w.cell? ⟨b, o, none⟩ = #[Value.int .i64 k, .int .i64 0, .int .i64 0, .int .i64 0][o]?) (hk : (Lit.int .i64 k).wf = true) : RowI w (some ⟨b, 0, none⟩) [⟨k, 0, 0, 0⟩] := fun i e hi => by
  cases i with
  | zero =>
    cases hi
    exact ⟨hk, b, 0, rfl, h 0, h 1, h 2, h 3⟩
  | succ i => cases hi
set_option maxHeartbeats 40000000 in
set_option maxRecDepth 1000000 in
theorem topSearch_any (W H most a t : Int) (A : Option Addr) (n cap : Nat) (xs : Nat → Int) (w : World) (s : StepsAt w) (dg : DiagAt w) (hm : n ≤ maxLen) (hx : OldRow w A n xs) :
    Calls Tryz.prog 6 #[.agg #[.int .i64 W, .int .i64 H, .slice A n cap], .int .i64 most, .int .i64 a, .int .i64 t] w fun e w' => e = .returned (.bool true) ∧ Below w.heap.size w w' := by
  have hs3 : sideB 3 = true := by decide
  have hG := gridAt_new 3 3 ((w.alloc (.cells #[.int .i64 W, .int .i64 H, .slice A n cap] 24)).alloc (.cells #[.int .i64 t] 3)) hs3 hs3
  have b0 : Below w.heap.size w ((w.alloc (.cells #[.int .i64 W, .int .i64 H, .slice A n cap] 24)).alloc (.cells #[.int .i64 t] 3)) := ((Below.refl _ _).alloc (Nat.le_refl _) _).alloc (by simp) _
  have hb : Below w.heap.size w (((w.alloc (.cells #[.int .i64 W, .int .i64 H, .slice A n cap] 24)).alloc (.cells #[.int .i64 t] 3)).alloc (.cells (gridC 3 3) 117)) := b0.alloc (by simp; omega) _
  have e1 : ((w.alloc (.cells #[.int .i64 W, .int .i64 H, .slice A n cap] 24)).alloc (.cells #[.int .i64 t] 3)).heap.size = w.heap.size + 1 + 1 := by simp
  have hfr : Free (((w.alloc (.cells #[.int .i64 W, .int .i64 H, .slice A n cap] 24)).alloc (.cells #[.int .i64 t] 3)).alloc (.cells (gridC 3 3) 117)) (w.heap.size + 1 + 1) := by
    have := free_alloc ((w.alloc (.cells #[.int .i64 W, .int .i64 H, .slice A n cap] 24)).alloc (.cells #[.int .i64 t] 3)) (gridC 3 3) 117 (w.heap.size + 1 + 1) (by simp)
    exact this
  have q : ∀ o, (((w.alloc (.cells #[.int .i64 W, .int .i64 H, .slice A n cap] 24)).alloc (.cells #[.int .i64 t] 3)).alloc (.cells (gridC 3 3) 117)).cell? ⟨w.heap.size, o, none⟩ = #[Value.int .i64 W, .int .i64 H, .slice A n cap][o]? := fun o => by
    rw [World.cell?_alloc_old _ _ _ (by simp; omega), World.cell?_alloc_old _ _ _ (by simp), World.cell?_alloc_new]
  have qt : (((w.alloc (.cells #[.int .i64 W, .int .i64 H, .slice A n cap] 24)).alloc (.cells #[.int .i64 t] 3)).alloc (.cells (gridC 3 3) 117)).cell? ⟨w.heap.size + 1, 0, none⟩ = some (.int .i64 t) := by
    rw [World.cell?_alloc_old _ _ _ (by simp)]
    exact World.cell?_alloc_at #[.int .i64 t] 3 (w.heap.size + 1) 0 (by simp)
  rw [e1] at hG
  have hz0 : (((w.alloc (.cells #[.int .i64 W, .int .i64 H, .slice A n cap] 24)).alloc (.cells #[.int .i64 t] 3)).alloc (.cells (gridC 3 3) 117)).heap.size = w.heap.size + 3 := by simp
  have hspos := s.pos
  have hdpos := dg.pos
  obtain ⟨es9, hG9⟩ := gEs_ex 3 3 mid9 (by decide)
  go_enter Tryz.func6, Tryz.ntmps6
  go_wp2_with (go_at_call 21; refine (new_ok _ _ _ hs3 hs3).mono ?_; rintro e w' ⟨rfl, rfl⟩)
  generalize ((w.alloc (.cells #[.int .i64 W, .int .i64 H, .slice A n cap] 24)).alloc (.cells #[.int .i64 t] 3)).alloc (.cells (gridC 3 3) 117) = w0 at *
  clear e1 b0
  have hse := set_new 4 true w0 hG hfr (by decide) rfl (by decide) (by decide)
  refine hse.mono ?_
  rintro e w1 ⟨rfl, T1, g1, fr1⟩
  have B1 := T1.below hb (by omega)
  have q1 : ∀ o, w1.cell? ⟨w.heap.size, o, none⟩ = #[Value.int .i64 W, .int .i64 H, .slice A n cap][o]? := fun o => (T1.cell (p := ⟨w.heap.size, o, none⟩) (by show w.heap.size ≠ w.heap.size + 1 + 1; omega)).trans (q o)
  have qt1 : w1.cell? ⟨w.heap.size + 1, 0, none⟩ = some (.int .i64 t) := (T1.cell (p := ⟨w.heap.size + 1, 0, none⟩) (by show w.heap.size + 1 ≠ w.heap.size + 1 + 1; omega)).trans qt
  have hl1 : w.heap.size + 1 + 1 < w1.heap.size := World.block_lt_of_cell? _ _ g1.c0
  clear hse hG q qt T1 hfr fr1
  go_wp2_with fail
  refine (new_graph w1 g1 (s.below B1 hspos) hl1).mono ?_
  rintro e w2 ⟨rb, pb, mb, rfl, G2, _, _, _, hb2⟩
  have B2 := B1.trans (hb2.mono B1.size)
  have q2 : ∀ o, w2.cell? ⟨w.heap.size, o, none⟩ = #[Value.int .i64 W, .int .i64 H, .slice A n cap][o]? := fun o => (hb2.cell (p := ⟨w.heap.size, o, none⟩) (by show w.heap.size < _; omega)).trans (q1 o)
  have qt2 := (hb2.cell (World.block_lt_of_cell? _ _ qt1)).trans qt1
  have hzw2 : w.heap.size < w2.heap.size := by have := hb2.size; omega
  clear g1 q1 qt1
  have hlv := new_levels (most := 2) w2 G2 hG9 (by decide) (by decide)
  go_wp2_with fail
  refine hlv.mono ?_
  rintro e w3 ⟨lb, rfl, L3, hb3⟩
  have B3 := B2.trans (hb3.mono B2.size)
  have q3 : ∀ o, w3.cell? ⟨w.heap.size, o, none⟩ = #[Value.int .i64 W, .int .i64 H, .slice A n cap][o]? := fun o => (hb3.cell (p := ⟨w.heap.size, o, none⟩) hzw2).trans (q2 o)
  have qt3 := (hb3.cell (World.block_lt_of_cell? _ _ qt2)).trans qt2
  clear hlv G2 q2 hb3 hb2 hb B1 B2 hl1 hzw2 hz0 qt2
  have bR : Below w3.heap.size w3 ((w3.alloc (.cells #[.int .i64 0, .int .i64 0, .int .i64 0, .int .i64 0] 67)).alloc (.cells #[.int .i64 8, .int .i64 0, .int .i64 0, .int .i64 0] 67)) := ((Below.refl _ _).alloc (Nat.le_refl _) _).alloc (by simp) _
  have r0 : RowI ((w3.alloc (.cells #[.int .i64 0, .int .i64 0, .int .i64 0, .int .i64 0] 67)).alloc (.cells #[.int .i64 8, .int .i64 0, .int .i64 0, .int .i64 0] 67)) (some ⟨w3.heap.size, 0, none⟩) [⟨0, 0, 0, 0⟩] := row9 (fun o => by
    rw [World.cell?_alloc_old _ _ _ (by simp), World.cell?_alloc_new]) rfl
  have r8 : RowI ((w3.alloc (.cells #[.int .i64 0, .int .i64 0, .int .i64 0, .int .i64 0] 67)).alloc (.cells #[.int .i64 8, .int .i64 0, .int .i64 0, .int .i64 0] 67)) (some ⟨w3.heap.size + 1, 0, none⟩) [⟨8, 0, 0, 0⟩] := row9 (fun o => by
    have e : w3.heap.size + 1 = (w3.alloc (.cells #[.int .i64 0, .int .i64 0, .int .i64 0, .int .i64 0] 67)).heap.size := by simp
    rw [e, World.cell?_alloc_new]) rfl
  have hsr := srch_none (cap := 1) (cap2 := 1) _ (L3.below bR) hG9 (by decide) (by decide) (by decide) (by decide) (by decide) (by decide) r0 r8 (by decide) (by decide)
  have B4 := B3.trans (bR.mono B3.size)
  have q4 : ∀ o, ((w3.alloc (.cells #[.int .i64 0, .int .i64 0, .int .i64 0, .int .i64 0] 67)).alloc (.cells #[.int .i64 8, .int .i64 0, .int .i64 0, .int .i64 0] 67)).cell? ⟨w.heap.size, o, none⟩ = #[Value.int .i64 W, .int .i64 H, .slice A n cap][o]? := fun o => (bR.cell (p := ⟨w.heap.size, o, none⟩) (by show w.heap.size < _; have lq : w.heap.size + 1 < w3.heap.size := World.block_lt_of_cell? _ _ qt3; omega)).trans (q3 o)
  have qt4 := (bR.cell (World.block_lt_of_cell? _ _ qt3)).trans qt3
  clear r0 r8 L3 q3 qt3 B3 bR
  go_wp2_with fail
  generalize (w3.alloc (.cells #[.int .i64 0, .int .i64 0, .int .i64 0, .int .i64 0] 67)).alloc (.cells #[.int .i64 8, .int .i64 0, .int .i64 0, .int .i64 0] 67) = w4 at *
  generalize w3.heap.size + 1 = R8 at *
  generalize w3.heap.size = R0 at *
  refine hsr.mono ?_
  rintro e w5 ⟨s9, d9, b9, v9, rfl, S9, hb5⟩
  have e9 := found9 hG9 S9
  subst e9
  have b6 : Below w5.heap.size w5 (w5.alloc (.cells #[.int .i64 s9, .int .i64 d9] 65)) := (Below.refl _ _).alloc (Nat.le_refl _) _
  have hb6 := hb5.trans (b6.mono hb5.size)
  have B6 := B4.trans (hb6.mono B4.size)
  have q6 : ∀ o, (w5.alloc (.cells #[.int .i64 s9, .int .i64 d9] 65)).cell? ⟨w.heap.size, o, none⟩ = #[Value.int .i64 W, .int .i64 H, .slice A n cap][o]? := fun o => (hb6.cell (p := ⟨w.heap.size, o, none⟩) (by show w.heap.size < _; have lq : w.heap.size + 1 < w4.heap.size := World.block_lt_of_cell? _ _ qt4; omega)).trans (q4 o)
  have c0 := q6 0
  have c1 := q6 1
  have c2 := q6 2
  have ct := (hb6.cell (World.block_lt_of_cell? _ _ qt4)).trans qt4
  have hLd := laid_any W H A n cap xs (w5.alloc (.cells #[.int .i64 s9, .int .i64 d9] 65)) hm (hx.below B6)
  clear hsr S9 hG9 q4 qt4 q6 b6 hb5 hb6 B4
  go_wp2_with fail
  clear c0 c1 c2
  generalize w5.alloc (.cells #[.int .i64 s9, .int .i64 d9] 65) = w6 at *
  refine hLd.mono ?_
  rintro e w7 ⟨hb7, hcs⟩
  have B7 := B6.trans (hb7.mono B6.size)
  have ct7 := (hb7.cell (World.block_lt_of_cell? _ _ ct)).trans ct
  clear hLd ct B6
  rcases hcs with rfl | ⟨rfl, hsz7, V, bl, hV, hB⟩
  · have B8 : Below w.heap.size w (w7.alloc (.cells #[.pointer none] 27)) := B7.alloc B7.size _
    go_wp2
    go_quiet (fail)
    go_wp2
    go_ret
    exact ⟨rfl, below_drewN B8 _⟩
  · generalize w6.heap.size + 1 + 1 = mb2 at *
    generalize w6.heap.size + 1 = gb at *
    have b8 : Below w7.heap.size w7 (w7.alloc (.cells #[.pointer (some ⟨mb2, 0, none⟩)] 27)) := (Below.refl _ _).alloc (Nat.le_refl _) _
    have B8 := B7.trans (b8.mono B7.size)
    have hB8 := hB.below' b8
    have cm : (w7.alloc (.cells #[.pointer (some ⟨mb2, 0, none⟩)] 27)).cell? ⟨w7.heap.size, 0, none⟩ = some (.pointer (some ⟨mb2, 0, none⟩)) := World.cell?_alloc_at #[.pointer (some ⟨mb2, 0, none⟩)] 27 w7.heap.size 0 rfl
    have ct := (b8.cell (World.block_lt_of_cell? _ _ ct7)).trans ct7
    have hra := hB8.ra
    have ra0 := hra.c0
    have ra1 := hra.c1
    have gw1 := hra.w1
    have gw2 := hra.w2
    have gh1 := hra.h1
    have gh2 := hra.h2
    have hwh := wh_bd hra.w1 hra.w2 hra.h1 hra.h2
    have hwr : IntKind.i64.wrap (W * H) = W * H := wrap_small (by omega) (by omega)
    clear hb7 hB b8 ct7 B7 hsz7
    go_wp2_with fail
    generalize w7.alloc (.cells #[.pointer (some ⟨mb2, 0, none⟩)] 27) = w8 at *
    generalize w7.heap.size = mc at *
    generalize w.heap.size + 1 + 1 = g0 at *
    generalize hPB : w.heap.size + 1 = tc at *
    by_cases h100 : 100 < W * H
    · clear hB8 hra
      go_quiet (fail)
      go_wp2
      go_ret
      exact ⟨rfl, below_drewN B8 _⟩
    by_cases hm1 : most < 1
    · clear hB8 hra
      go_quiet (fail)
      go_wp2
      go_ret
      exact ⟨rfl, below_drewN B8 _⟩
    by_cases hm6 : 6 < most
    · clear hB8 hra
      go_quiet (fail)
      go_wp2
      go_ret
      exact ⟨rfl, below_drewN B8 _⟩
    have hne := since_ne w8
    have kx : ∀ (x : Since w8) {y : Addr} {z : Value}, w8.cell? y = some z → x.u.cell? y = some z := fun x {y z} h => (x.h.cell (World.block_lt_of_cell? w8 y h)).trans h
    have t0 : ∀ x : Since w8, x.u.cell? ⟨mc, 0, none⟩ = some (.pointer (some ⟨mb2, 0, none⟩)) := fun x => kx x cm
    have t1 : ∀ x : Since w8, x.u.cell? ⟨tc, 0, none⟩ = some (.int .i64 t) := fun x => kx x ct
    have t2 : ∀ x : Since w8, x.u.cell? ⟨mb2, 0, none⟩ = some (.int .i64 W) := fun x => kx x ra0
    have t3 : ∀ x : Since w8, x.u.cell? ⟨mb2, 1, none⟩ = some (.int .i64 H) := fun x => kx x ra1
    have hf : Hid (∀ (x : Since w8) (c : Int), _) := fun x c => ff_any c x.u (hra.below x.h (World.block_lt_of_cell? _ _ hra.c0))
    have d1 : decide (100 < W * H) = false := decide_eq_false h100
    have d2 : decide (most < 1) = false := decide_eq_false hm1
    have d3 : decide (6 < most) = false := decide_eq_false hm6
    have ffp : ∀ c, ¬ ffv W H bl c = 0 → 0 < ffv W H bl c := fun c h => by unfold ffv at h ⊢; split <;> (try split) <;> simp_all
    by_cases hza : ffv W H bl a = 0
    · have d4 : decide (0 < ffv W H bl a) = false := decide_eq_false (by omega)
      by_cases hzt : ffv W H bl t = 0
      · have d5 : decide (0 < ffv W H bl t) = false := decide_eq_false (by omega)
        go_cut [118] from 85 to 118 (fun b wd => b = .bool false ∧ Below w8.heap.size w8 wd)
        case first =>
          clear hB8 hra ra0 ra1 cm ct kx
          refine wp_region_since (by kernel_rfl) (by kernel_rfl) ?_
          repeat (go_big_quiet_step (first | (go_at_call 36; exact Calls.since_of (hf.out _ _))))
          refine wpQuiet_nil ?_
          rintro _ ⟨x, rfl⟩
          go_wp2_with fail
          go_meet
          exact ⟨rfl, x.h⟩
        case rest =>
          obtain ⟨rfl, hb9⟩ := hcut
          have hf2 : ff2 W H bl a t = 0 := by unfold ff2; rw [if_pos hza]; exact hzt
          obtain ⟨⟨hia, hbla⟩, ⟨hit, hblt⟩⟩ := ff2_ok hf2
          have ja : 0 ≤ a ∧ a < W * H := of_decide_eq_true hia
          have jt : 0 ≤ t ∧ t < W * H := of_decide_eq_true hit
          obtain ⟨mN, hmN⟩ : ∃ mN : Nat, most = (mN : Int) := ⟨most.toNat, by omega⟩
          obtain ⟨aN, haN⟩ : ∃ aN : Nat, a = (aN : Int) := ⟨a.toNat, by omega⟩
          obtain ⟨tN, htN⟩ : ∃ tN : Nat, t = (tN : Int) := ⟨t.toNat, by omega⟩
          subst hmN haN htN
          rw [Int.toNat_natCast] at hbla hblt
          have hB9 := hB8.below' hb9
          have B9 := B8.trans (hb9.mono B8.size)
          have cm9 := (hb9.cell (World.block_lt_of_cell? _ _ cm)).trans cm
          have ct9 := (hb9.cell (World.block_lt_of_cell? _ _ ct)).trans ct
          obtain ⟨es, hGE⟩ := gEs_ex W H bl gw1
          have HGE : Hid (GEs W H bl es) := hGE
          have gl : gb < wc.heap.size := World.block_lt_of_cell? _ _ hB9.ga.c0
          have HFB : Hid (∃ Fl : Int → Int → Option (Int × Int), ∀ c, inB W H c = true → Best (Edge W H bl) c (Fl c)) := fl_ex w8 hra
          clear hGE hB8 hra ra0 ra1 cm ct kx t0 t1 t2 t3 hf d1 d2 d3 d4 d5 ffp hne hza hzt hb9 h100 hwr
          go_wp2_with fail
          refine (new_graph wc hB9.ga (s.below B9 hspos) gl).mono ?_
          rintro e w10 ⟨rb2, pb2, mbm, rfl, G10, _, _, _, hb10⟩
          have hlv1 := new_levels (most := 1) w10 G10 HGE.out (by decide) (by decide)
          go_wp2_with fail
          refine hlv1.mono ?_
          rintro e w11 ⟨lb1, rfl, L11, hb11⟩
          have G11 := G10.below hb11
          have D11 := hb10.trans (hb11.mono hb10.size)
          have hlvn := new_levels (most := mN) w11 G11 HGE.out (by omega) (by omega)
          clear hlv1 G10 hb10 hb11
          go_wp2_with fail
          refine hlvn.mono ?_
          rintro e w12 ⟨lbn, rfl, L12, hb12⟩
          have G12 := G11.below hb12
          have L1 := L11.below hb12
          have D12 := D11.trans (hb12.mono D11.size)
          have hcn := conn_rows w12 G12 (s.below (B9.trans (D12.mono B9.size)) hspos) gw1 gw2 gh1 gh2 hia hbla
          clear hlvn G11 L11 hb12 D11
          go_wp2_with fail
          refine hcn.mono ?_
          rintro e w13 ⟨A1, cap1, l1, rfl, r1, cn1, le1, hb13⟩
          have G13 := G12.below hb13
          have L1 := L1.below hb13
          have Ln := L12.below hb13
          have D13 := D12.trans (hb13.mono D12.size)
          have ct13 := (D13.cell (World.block_lt_of_cell? _ _ ct9)).trans ct9
          have hct := conn_rows w13 G13 (s.below (B9.trans (D13.mono B9.size)) hspos) gw1 gw2 gh1 gh2 hit hblt
          clear hcn G12 L12 hb13 D12
          go_wp2_with fail
          refine hct.mono ?_
          rintro e w14 ⟨A2, cap2, l2, rfl, r2, cn2, le2, hb14⟩
          have D14 := D13.trans (hb14.mono D13.size)
          have L1 := L1.below hb14
          have Ln := Ln.below hb14
          have r1 := r1.below (Nat.le_refl _) hb14
          have hB14 := hB9.below' D14
          have B14 := B9.trans (D14.mono B9.size)
          have cm14 := (D14.cell (World.block_lt_of_cell? _ _ cm9)).trans cm9
          have ct14 := (D14.cell (World.block_lt_of_cell? _ _ ct9)).trans ct9
          have hs1 := srch_none (cap := cap1) (cap2 := cap2) w14 L1 HGE.out gw1 gw2 gh1 gh2 (by decide) (by decide) r1 r2 le1 le2
          have HCN : Hid (Cns W H bl aN l1 ∧ Cns W H bl tN l2) := ⟨cn1, cn2⟩
          have HLN : Hid (Lvd w14 w11.heap.size lbn mN W H bl es) := Ln
          have HR : Hid (RowI w14 A1 (frI W aN l1) ∧ RowI w14 A2 (frI W tN l2)) := ⟨r1, r2⟩
          clear hct G13 hb14 D13 D14 ct13 cm9 ct9 hB9 B9 L1 Ln cn1 cn2 r1 r2
          go_wp2_with fail
          refine hs1.mono ?_
          rintro e w15 ⟨s1, d1, b1, v1, rfl, S1, hb15⟩
          have HS1 : Hid (Srch W H bl es (frI W aN l1) (frI W tN l2) s1 d1 b1) := S1
          have hb16 := hb15.alloc hb15.size (.cells #[.int .i64 s1, .int .i64 d1] 65)
          have sl1 := Slot.new w15 s1 d1
          have hs2 := srch_none (cap := cap1) (cap2 := cap2) _ (HLN.out.below hb16) HGE.out gw1 gw2 gh1 gh2 (by omega) (by omega) (HR.out.1.below (Nat.le_refl _) hb16) (HR.out.2.below (Nat.le_refl _) hb16) le1 le2
          clear hs1 S1 hb15
          go_wp2_with fail
          generalize w15.alloc (.cells #[.int .i64 s1, .int .i64 d1] 65) = w16 at *
          generalize w15.heap.size = X1 at *
          refine hs2.mono ?_
          rintro e w17 ⟨s2, d2, b2, v2, rfl, S2, hb17⟩
          obtain ⟨e1, e2, e3⟩ := HS1.out.same S2
          subst e1 e2 e3
          have hb18 := hb17.alloc hb17.size (.cells #[.int .i64 s1, .int .i64 d1] 65)
          have F18 := hb16.trans (hb18.mono hb16.size)
          have sl2 := Slot.new w17 s1 d1
          have sl1 := sl1.below hb18
          have cm18 := (F18.cell (World.block_lt_of_cell? _ _ cm14)).trans cm14
          have ct18 := (F18.cell (World.block_lt_of_cell? _ _ ct14)).trans ct14
          have hs3 := srch_any (cap := cap1) (cap2 := cap2) _ (HLN.out.below F18) HGE.out gw1 gw2 gh1 gh2 (by omega) (by omega) (guess_ok _ cm18 ct18 (hB14.below' F18).ra hit) (octG_bd gw1 gw2 gh2 hit) (fun hR => adm_oct HGE.out gw1 gw2 gh1 gh2 (by omega) (by omega) hR hit HCN.out.2) (HR.out.1.below (Nat.le_refl _) F18) (HR.out.2.below (Nat.le_refl _) F18) le1 le2
          clear hs2 S2 hb17 hb18 hb16 cm18 ct18
          go_wp2_with fail
          generalize w17.alloc (.cells #[.int .i64 s1, .int .i64 d1] 65) = w18 at *
          generalize w17.heap.size = X2 at *
          refine hs3.mono ?_
          rintro e w19 ⟨s3, d3, b3, v3, rfl, S3, hb19⟩
          obtain ⟨e1, e2, e3⟩ := HS1.out.same S3
          subst e1 e2 e3
          have hb20 := hb19.alloc hb19.size (.cells #[.int .i64 s1, .int .i64 d1] 65)
          have F20 := F18.trans (hb20.mono F18.size)
          have sl3 := Slot.new w19 s1 d1
          have sl1 := sl1.below hb20
          have sl2 := sl2.below hb20
          have cm20 := (F20.cell (World.block_lt_of_cell? _ _ cm14)).trans cm14
          have ct20 := (F20.cell (World.block_lt_of_cell? _ _ ct14)).trans ct14
          have hB20 := hB14.below' F20
          have B20 := B14.trans (F20.mono B14.size)
          have hfl := rflood_any aN _ hB20.ra (World.block_lt_of_cell? _ _ hB20.ra.c0) hia
          clear hs3 S3 hb19 hb20 F18 F20 cm14 ct14 hB14 B14 HLN HR
          go_wp2_with fail
          generalize w19.alloc (.cells #[.int .i64 s1, .int .i64 d1] 65) = w20 at *
          generalize w19.heap.size = X3 at *
          refine hfl.mono ?_
          rintro e w21 ⟨F, rfl, BF, hb21⟩
          obtain ⟨t54, t55, LA, hbL⟩ := lab_laid w21 F
          have o1 := costL_one F
          have o2 := isL_one F
          have hcl := costL_len F
          have hil := isL_len F
          have hb22 := hb21.trans (hbL.mono hb21.size)
          have B22 := B20.trans (hb22.mono B20.size)
          have sl1 := sl1.below hb22
          have sl2 := sl2.below hb22
          have sl3 := sl3.below hb22
          have ct22 := (hb22.cell (World.block_lt_of_cell? _ _ ct20)).trans ct20
          have hB22 := hB20.below' hb22
          have HBF : Hid (Best (Edge W H bl) (aN : Int) F) := BF
          have x0 := sl1.c0
          have x1 := sl1.c1
          have x2 := sl2.c0
          have x3 := sl2.c1
          have x4 := sl3.c0
          have x5 := sl3.c1
          clear hfl hb21 hbL hb22 BF hB20 B20 sl2 sl3 ct20 cm20
          generalize costL F = cs at *
          generalize isL F = is' at *
          have hsc := run_storeCells_cells (P := Tryz.prog) (w21.heap.size + 1) 0 is' 0 (((w21.alloc (.cells zC 82)).alloc (.cells zB 30)).setCells w21.heap.size 0 cs) (fun j hj => by simpa using (t55 j (by omega)).1) (fun j hj => by simpa using (t55 j (by omega)).2) o2
          simp only [Nat.add_zero] at hsc
          go_wp2_with (first | (refine wpList_alloc54 rfl rfl ?_) | (refine wpList_alloc55 rfl rfl ?_) | (refine wpList_store_mid rfl 82 _ _ rfl _ _ cs.toArray rfl rfl (th_of hcl t54) (in_of hcl info54) (all_oneCell_toArray o1) ?_) | (refine wpList_store_mid rfl 30 _ _ rfl _ _ is'.toArray rfl rfl (th_of hil t55) (in_of hil info55) (all_oneCell_toArray o2) ?_))
          clear hsc o1 o2 hcl hil t54 t55
          generalize (((w21.alloc (.cells zC 82)).alloc (.cells zB 30)).setCells w21.heap.size 0 cs).setCells (w21.heap.size + 1) 0 is' = w22 at *
          generalize w21.heap.size + 1 = IB at *
          generalize w21.heap.size = CB at *
          have hnr := near_ok (aN : Int) (tN : Int) w22 hB22.ga (s.below B22 hspos) (dg.below B22) (World.block_lt_of_cell? _ _ hB22.ga.c0) hf2
          clear x0 x1 x2 x3 x4 x5 hB22
          refine hnr.mono ?_
          rintro e w23 ⟨r, rfl, hr, hb23⟩
          have B23 := B22.trans (hb23.mono B22.size)
          have LA := LA.below hb23
          have sl1 := sl1.below hb23
          have ct23 := (hb23.cell (World.block_lt_of_cell? _ _ ct22)).trans ct22
          have x0 := sl1.c0
          have x1 := sl1.c1
          have tlt : tN < 256 := by omega
          have y0 := LA.i0 tN tlt
          have y1 := LA.c0 tN tlt
          have y2 := LA.c1 tN tlt
          have i1 : (0 : Int) ≤ (tN : Int) := by omega
          have i2 : (tN : Int) < 256 := by omega
          clear hnr hb23 B22 ct22 LA sl1
          cases r with
          | true =>
            clear hr y0 y1 y2 x0 x1
            go_wp2
            go_quiet (fail)
            go_wp2
            go_ret
            exact ⟨rfl, below_drewN B23 _⟩
          | false =>
            have hn : ¬ ∃ z, On W H bl (aN : Int) (tN : Int) z := fun q => by have := hr.2 q; cases this
            obtain ⟨Fl, hFl⟩ := HFB.out
            have eF : F = Fl aN := HBF.out.unique (hFl aN hia)
            obtain ⟨f1, f2⟩ := HS1.out.flood HGE.out gw1 gw2 gh1 gh2 hFl hia hit HCN.out.1 HCN.out.2 hn
            rw [← eF] at f1 f2
            clear hr hn eF hFl
            cases b1 with
            | false =>
              have h1 := f2 rfl
              have e1 : (F (tN : Int)).isSome = false := by rw [h1]; rfl
              rw [e1] at y0
              clear f1 f2 h1 e1 y1 y2 x0 x1
              go_wp2
              go_quiet (fail)
              go_wp2
              go_ret
              exact ⟨rfl, below_drewN B23 _⟩
            | true =>
              have h1 := f1 rfl
              have e1 : (F (tN : Int)).isSome = true := by rw [h1]; rfl
              obtain ⟨e2, e3⟩ := lab_some h1
              rw [e1] at y0
              rw [e2] at y1
              rw [e3] at y2
              clear f1 f2 h1 e1 e2 e3
              go_wp2
              go_quiet (fail)
              go_wp2
              go_ret
              exact ⟨rfl, below_drewN B23 _⟩
      · have d5 : decide (0 < ffv W H bl t) = true := decide_eq_true (ffp t hzt)
        clear hB8 hra ra0 ra1 cm ct kx
        refine wp_region_since (by kernel_rfl) (by kernel_rfl) ?_
        repeat (go_big_quiet_step (first | (go_at_call 36; exact Calls.since_of (hf.out _ _))))
        refine wpQuiet_nil ?_
        rintro _ ⟨x, rfl⟩
        go_wp2
        go_ret
        exact ⟨rfl, B8.trans (x.h.mono B8.size)⟩
    · have d4 : decide (0 < ffv W H bl a) = true := decide_eq_true (ffp a hza)
      clear hB8 hra ra0 ra1 cm ct kx
      refine wp_region_since (by kernel_rfl) (by kernel_rfl) ?_
      repeat (go_big_quiet_step (first | (go_at_call 36; exact Calls.since_of (hf.out _ _))))
      refine wpQuiet_nil ?_
      rintro _ ⟨x, rfl⟩
      go_wp2
      go_ret
      exact ⟨rfl, B8.trans (x.h.mono B8.size)⟩
end Go.Proofs.YtmnpplkjhnoglaaGreatDoor
