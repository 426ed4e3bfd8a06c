/-
  Texts laid together: GRead, CellA, Touch, LocT, GSet.
-/
import Derived.Test.YtcagpmglijockaaDoorP10
/-
  What a graph tells: its corners, the edges of one, its grid, what connects a cell.
-/
namespace Go.Proofs.YtcagpmglijockaaDoor
open Go.RowKit Go.Maps Go.Sort Go.Shelf

theorem Tryd.sortsA (m : Nat) : AnyZI.SortsIn Tryd.prog Tryd.sortedA_ren Fence.wide m :=
  ⟨fun blk off cap ss W hH hblk hsz => callsIn_wide.2 (AnyM.slices_Sort_int Tryd.sortA blk off cap ss W hH hblk hsz),
   fun p cap W => callsIn_wide.2 (AnyM.slices_Sort_int_none Tryd.sortA p cap W)⟩

set_option maxHeartbeats 1000000 in
theorem nodes' (rb b nn : Nat) (D0 : DataW Value) (R : Value → Option (DataW Value × List MemPlace)) (w : World) (p1 : w.cell? ⟨rb, 1, none⟩ = some (.map (some b))) (hown : w.ownsMap Tryd.prog 3 R b nn D0) (hmax : Maps.size D0 ≤ maxLen) (hbytes : Maps.size D0 * 8 ≤ 140737488355328) :
    Calls Tryd.prog 8 #[.pointer (some ⟨rb, 0, none⟩)] w fun e w' => ∃ (v : Value) (ss : List Int), e = .returned v ∧ ss.Perm (intKeys D0) ∧
      w'.ownsRow w.heap.size 3 1 v ss.length ((ss.mergeSort (fun x y => decide (x ≤ y))).map encZ) ∧ Below w.heap.size w w' := by
  refine (callsIn_wide (n := 6)).1 ?_
  have hbl := hown.lt
  have hseq : SeqGives Fence.wide 2 Tryd.prog 37 #[.pointer (some ⟨w.heap.size, 0, none⟩)] encZ (fun ss => ss.Perm (intKeys D0)) (Maps.size D0) (w.alloc (.cells #[.map (some b)] 57)) :=
    AnyZI.keys_gives (ρ := Tryd.keysA_ren) { Tryd.keysA with } Fence.wide _ trivial rfl (by omega) w.heap.size b nn D0 _ (by simp) (by simp) (by
      obtain ⟨es, clock, hb, Ft, hs, hD⟩ := hown
      exact ⟨es, clock, (Below.heap_alloc _ _ b hbl).trans hb, Ft, hs, hD⟩)
  have cK : ∀ mb W, CallsIn Fence.wide 5 Tryd.prog 23 #[.map mb] W fun e w' => e = .returned (.func (.func 37) #[] #[.pointer (some ⟨W.heap.size, 0, none⟩)]) ∧ w' = W.alloc (.cells #[.map mb] 57) := fun mb W => AnyZI.keys_in Tryd.keysA Fence.wide 5 trivial rfl mb W
  have cS := AnyZI.sorted_in Tryd.sortedA Fence.wide 5 trivial trivial trivial trivial rfl (by omega) (Tryd.sortsA _) (enters_of Tryd.func36 (by kernel_rfl) rfl) 37 #[.pointer (some ⟨w.heap.size, 0, none⟩)] trivial (enters_of Tryd.func37 (by kernel_rfl) rfl) _ _ hmax hbytes _ hseq
  change CallsIn _ _ Tryd.prog 22 _ _ _ at cS
  have hfK : Fence.wide.fn 23 := trivial
  have hfS : Fence.wide.fn 22 := trivial
  refine callsIn_of_wp Tryd.func8 rfl trivial ?_ rfl
  simp only [Tryd.ntmps8, List.size_toArray, List.length_cons, List.length_nil, Nat.reduceAdd, Nat.reduceSub, Array.replicate_succ, Array.replicate_zero, List.push_toArray, List.append_toArray, List.nil_append, List.cons_append]
  gi_wp2_with (first
    | (gi_at_call 23; refine (cK _ _).mono ?_; rintro e w' ⟨rfl, rfl⟩)
    | (gi_at_call 22; refine cS.mono ?_; rintro e w' ⟨v, ss, rfl, hS, hrow, hnil, hb⟩))
  go_ret
  exact ⟨v, ss, rfl, hS, ownsRow_base_a hrow (by simp), ((Below.refl _ w).alloc (Nat.le_refl _) _).trans (hb.mono (by simp))⟩

theorem crs_rise (W H : Int) (bl : Nat → Bool) (k : Nat) : (crs W H bl k).Pairwise (· < ·) := by
  unfold crs
  exact List.pairwise_lt_range.filter _

theorem nodes_any {rb pb mb : Nat} {W H V : Int} {bl : Nat → Bool} (w : World) (G : GraphAt w rb pb mb W H V bl) :
    Calls Tryd.prog 8 #[.pointer (some ⟨rb, 0, none⟩)] w fun e w' => ∃ v, e = .returned v ∧ w'.ownsRow w.heap.size 3 1 v (crs W H bl (W * H).toNat).length (vals (crs W H bl (W * H).toNat)) ∧ Below w.heap.size w w' := by
  obtain ⟨f, G, E⟩ := G
  have gw1 := G.ga.w1
  have hroom := cntS_le (keyB f) 256
  obtain ⟨D, hown, hsz, hD⟩ := G.mp
  have hc : CollectedI D (fun _ => false) (intsN (crs W H bl (W * H).toNat)) := by
    refine ⟨(rise_intsN (crs_rise _ _ _ _)).imp (fun h e => by omega), fun x => ?_⟩
    rw [mem_intsN, (hD x).1]
    constructor
    · rintro ⟨n, hn, rfl⟩
      obtain ⟨v, l, hf, _⟩ := (E n).yes (crs_mem.1 hn).2
      exact ⟨by rw [hf]; rfl, rfl⟩
    · rintro ⟨hs, _⟩
      cases hcx : cornB W H bl x with
      | false => rw [(E x).no hcx] at hs; cases hs
      | true =>
        have h2 : 0 ≤ x ∧ x < W * H := of_decide_eq_true (cornC_in gw1 (cornB_iff.1 hcx))
        refine ⟨x.toNat, crs_mem.2 ⟨by omega, ?_⟩, by omega⟩
        rw [Int.toNat_of_nonneg h2.1]; exact hcx
  have hp := hc.perm hown (int_keyed law3) law3 (fun _ => rfl)
  refine (nodes' rb mb _ D asIs w G.p1 hown (by rw [hsz]; unfold maxLen; omega) (by rw [hsz]; omega)).mono ?_
  rintro e w' ⟨v, ss, rfl, hS, hrow, hb⟩
  have hps := hS.trans hp.symm
  have e1 := mergeSort_of_perm_i hps
  obtain ⟨l, l1, l2, l3, l4⟩ := srt_ex (crs W H bl (W * H).toNat) ((crs_rise _ _ _ _).imp (fun h e => by omega))
  have e2 : l = crs W H bl (W * H).toNat := rise_eq l1 (crs_rise _ _ _ _) l2
  have e3 : ss.mergeSort (fun x y => decide (x ≤ y)) = intsN (crs W H bl (W * H).toNat) := by
    rw [e2] at l4
    exact e1.trans l4
  rw [e3, hps.length_eq] at hrow
  refine ⟨v, rfl, ?_, hb⟩
  rw [List.length_map, List.map_map] at hrow
  exact hrow

theorem eqlE (w : World) (a : Option Addr) (n c n' c' : Nat) : (binOp .eql 47 (.slice a n c) (.slice none n' c')).run Tryd.prog w = .ok (.bool a.isNone) w := Lib.run_eql_slice_nil w _ _ a n c n' c' Tryd.underE
theorem undE (w : World) : Sem.run Tryd.prog (underlying 47) w = .ok (TypeDesc.slice 77) w := run_underlying Tryd.underE w
set_option maxHeartbeats 1000000 in
set_option maxRecDepth 1000000 in
theorem clone_nil (w : World) : Calls Tryd.prog 29 #[.slice none 0 0] w fun e w' => e = .returned (.slice none 0 0) ∧ w' = w := by
  have q := eqlE
  go_enter Tryd.func29, Tryd.ntmps29
  go_wp2
  go_ret
  exact ⟨rfl, rfl⟩
set_option maxHeartbeats 1000000 in
set_option maxRecDepth 1000000 in
theorem clone_row {g n cap : Nat} {xs : List Value} (w : World) (h : w.ownsRow 0 77 4 (.slice (some ⟨g, 0, none⟩) n cap) n xs) (h1 : ∀ u ∈ xs, u.oneCell' = true) (hn : n ≤ 256) :
    Calls Tryd.prog 29 #[.slice (some ⟨g, 0, none⟩) n cap] w fun e w' => ∃ v, e = .returned v ∧ w'.ownsRow w.heap.size 77 4 v n xs ∧ Below w.heap.size w w' := by
  obtain ⟨i0, hi, hz0, hz1, hz2⟩ := info_parts Tryd.infoE
  have hx : xs.length = n * 4 := h.1
  have hc : Hid (∀ j u, xs[j]? = some u → w.cell? ⟨g, j, none⟩ = some u) := fun j u hj => by
    have hj' : j < xs.length := (List.getElem?_eq_some_iff.1 hj).1
    rw [h.cellAt j (by omega)]; exact hj
  have q := eqlE
  have u := undE
  clear h
  go_enter Tryd.func29, Tryd.ntmps29
  go_wp2_with (at_builtin; refine wpList_append_own _ rfl _ _ 47 rfl w.heap.size 77 i0 (.agg #[.int .i64 0, .int .i64 0, .int .i64 0, .int .i64 0]) 4 32 Tryd.underE hi hz0 hz1 hz2 rfl (by decide) _ _ _ rfl (World.ownsRow_made w #[] 0 (Nat.le_refl _) (Nat.zero_le _) (by simp)) ⟨g, 0, none⟩ n cap xs rfl ?qc1 ?qc2 ?qc3 ?qc4 ?qc5 ?qc6 ?_)
  case qc1 => exact hx
  case qc2 =>
    intro j u hj
    rw [Addr.add_lit, Nat.zero_add]
    exact Lib.cell?_alloc_some _ (hc.out j u hj)
  case qc3 => exact h1
  case qc4 => unfold maxLen; omega
  case qc5 => omega
  case qc6 => simp
  intro v' w1 hown hgrow _
  go_wp2
  go_ret
  refine ⟨v', rfl, by simpa using hown, ?_⟩
  exact ((Below.refl _ w).alloc (Nat.le_refl _) _).grown hgrow (by simp) (by intro k hk; simp [Value.ownBlock] at hk; omega)

theorem edgesV_one (W a : Int) (l : List Nat) : ∀ u ∈ edgesV W a l, u.oneCell' = true := by
  intro u hu
  unfold edgesV at hu
  obtain ⟨n, _, hn⟩ := List.mem_flatMap.1 hu
  unfold edgeV at hn
  simp at hn
  rcases hn with rfl | rfl | rfl | rfl <;> rfl
/-- the edges of a corner are few -/
theorem EdgeL.len {W H c : Int} {bl : Nat → Bool} {l : List Nat} (w1 : 1 ≤ W) (hwh : W * H ≤ 256) (h : EdgeL W H bl c l) : l.length ≤ 256 :=
  nodup_len 256 (h.1.imp (fun h e => by omega)) (fun n hn => by
    have h1 := ((h.2 n).1 hn).2
    rw [Bool.and_eq_true] at h1
    have h2 : 0 ≤ (n : Int) ∧ (n : Int) < W * H := of_decide_eq_true (cornC_in w1 (cornB_iff.1 h1.2))
    omega)

set_option maxHeartbeats 1000000 in
theorem edges_no {rb pb mb : Nat} {W H V c : Int} {bl : Nat → Bool} (w : World) (G : GraphAt w rb pb mb W H V bl) (hc : cornB W H bl c = false) (hw : (Lit.int .i64 c).wf = true) :
    Calls Tryd.prog 15 #[.pointer (some ⟨rb, 0, none⟩), .int .i64 c] w fun e w' => e = .returned (.tuple #[.slice none 0 0, .iface 53 (.int .i64 5)]) ∧ Below w.heap.size w w' := by
  obtain ⟨f, G, E⟩ := G
  have p1 := G.p1
  have hl : (Instr.lookup 57 (.map (some mb)) (.int .i64 c) true).run Tryd.prog w = .ok (.tuple #[.slice none 0 0, .bool false]) w := G.mp.look_none law3 Tryd.underM (zeroM w) hw ((E c).no hc) true
  clear G E
  go_enter Tryd.func15, Tryd.ntmps15
  go_wp2
  go_ret2
  exact ⟨rfl, Below.refl _ _⟩

set_option maxHeartbeats 1000000 in
theorem edges_yes {rb pb mb : Nat} {W H V c : Int} {bl : Nat → Bool} (w : World) (G : GraphAt w rb pb mb W H V bl) (hc : cornB W H bl c = true) (hw : (Lit.int .i64 c).wf = true) :
    Calls Tryd.prog 15 #[.pointer (some ⟨rb, 0, none⟩), .int .i64 c] w fun e w' => ∃ v l, e = .returned (.tuple #[v, .nilIface]) ∧ w'.ownsRow w.heap.size 77 4 v l.length (edgesV W c l) ∧ EdgeL W H bl c l ∧ Below w.heap.size w w' := by
  obtain ⟨f, G, E⟩ := G
  have p1 := G.p1
  have hwh := wh_bd G.ga.w1 G.ga.w2 G.ga.h1 G.ga.h2
  obtain ⟨v, l, hf, hown, hL, _⟩ := (E c).yes hc
  have hl : (Instr.lookup 57 (.map (some mb)) (.int .i64 c) true).run Tryd.prog w = .ok (.tuple #[v, .bool true]) w := G.mp.look_some law3 Tryd.underM (zeroM w) hw hf true
  have hlen := hL.len G.ga.w1 hwh.2
  have HL : Hid (EdgeL W H bl c l) := hL
  clear G E hL hf
  rcases hown.2 with ⟨rfl, h0⟩ | ⟨g, cap, cur, rfl, _⟩
  · have hcl := clone_nil w
    go_enter Tryd.func15, Tryd.ntmps15
    go_wp2_with fail
    refine hcl.mono ?_
    rintro e w1 ⟨rfl, rfl⟩
    clear hcl
    go_wp2
    go_ret2
    refine ⟨_, l, rfl, ?_, HL.out, Below.refl _ _⟩
    have e0 : l = [] := List.length_eq_zero_iff.1 h0
    rw [e0]; exact World.ownsRow_nil _ _ _ _
  · have hcl := clone_row w hown (edgesV_one _ _ _) hlen
    clear hown
    go_enter Tryd.func15, Tryd.ntmps15
    go_wp2_with fail
    refine hcl.mono ?_
    rintro e w1 ⟨v', rfl, hown', hb1⟩
    clear hcl
    go_wp2
    go_ret2
    exact ⟨_, l, rfl, hown', HL.out, hb1⟩

end Go.Proofs.YtcagpmglijockaaDoor
/-
  The cell at a place; how great a grid is, and how often it changed.
-/
namespace Go.Proofs.YtcagpmglijockaaDoor
open Go.RowKit

set_option maxHeartbeats 400000 in
theorem cell_in {b : Nat} {W H V : Int} {bl : Nat → Bool} (x y : Int) (w : World) (g : GridAt w b W H V bl) (hr : atB W H x y = true) :
    Calls Tryd.prog 41 #[.pointer (some ⟨b, 0, none⟩), .int .i64 x, .int .i64 y] w fun e w' => e = .returned (.tuple #[.int .i64 (y * W + x), .nilIface]) ∧ w' = w := by
  have h : 0 ≤ x ∧ x < W ∧ 0 ≤ y ∧ y < H := of_decide_eq_true hr
  have hp : ∀ w : World, GridAt w b W H V bl → Calls Tryd.prog 52 #[.pointer (some ⟨b, 0, none⟩), .int .i64 x, .int .i64 y] w fun e w' => e = .returned (.bool true) ∧ w' = w := fun w g => hr ▸ hasPlace_any x y w g
  have gw := g.w2
  have gh := g.h2
  have hn := number_any x y w g (by omega) (by omega) (by omega) (by omega)
  go_enter Tryd.func41, Tryd.ntmps41
  go_wp2_with (first | (go_at_call 52; refine (hp _ g).mono ?_; rintro e w' ⟨rfl, rfl⟩) | (go_at_call 53; refine hn.mono ?_; rintro e w' ⟨rfl, rfl⟩))
  go_ret2
  exact ⟨rfl, rfl⟩
set_option maxHeartbeats 400000 in
theorem cell_out {b : Nat} {W H V : Int} {bl : Nat → Bool} (x y : Int) (w : World) (g : GridAt w b W H V bl) (hr : atB W H x y = false) :
    Calls Tryd.prog 41 #[.pointer (some ⟨b, 0, none⟩), .int .i64 x, .int .i64 y] w fun e w' => e = .returned (.tuple #[.int .i64 0, .iface 53 (.int .i64 1)]) ∧ w' = w := by
  have hp : ∀ w : World, GridAt w b W H V bl → Calls Tryd.prog 52 #[.pointer (some ⟨b, 0, none⟩), .int .i64 x, .int .i64 y] w fun e w' => e = .returned (.bool false) ∧ w' = w := fun w g => hr ▸ hasPlace_any x y w g
  go_enter Tryd.func41, Tryd.ntmps41
  go_wp2_with (go_at_call 52; refine (hp _ g).mono ?_; rintro e w' ⟨rfl, rfl⟩)
  go_ret2
  exact ⟨rfl, rfl⟩
end Go.Proofs.YtcagpmglijockaaDoor
/-
  The corners whose edges may hang on a cell: package graph's 'addTouched'.
-/
namespace Go.Proofs.YtcagpmglijockaaDoor
open Go.RowKit

theorem Tryd.underT : Tryd.prog.underlying 79 = some (.map 3 94) := by kernel_rfl
set_option maxHeartbeats 400000 in
theorem clo_touch {xb pb : Nat} {W H V : Int} {bl : Nat → Bool} (w : World) (n : Int) (q2 : w.cell? ⟨xb, 0, none⟩ = some (.pointer (some ⟨pb, 0, none⟩))) (g : GridAt w pb W H V bl) (s : StepsAt w) (hn : inB W H n = true) :
    Calls Tryd.prog 42 #[.int .i64 n, .pointer (some ⟨xb, 0, none⟩)] w fun e w' => e = .returned (.bool (cornB W H bl n)) ∧ Below w.heap.size w w' := by
  have h1 := isc_any n w g s hn
  generalize cornB W H bl n = r at *
  go_enter Tryd.func42, Tryd.ntmps42
  go_wp2_with fail
  refine h1.mono ?_
  rintro e1 w1 ⟨rfl, m, rfl⟩
  clear h1
  go_wp2
  go_ret
  exact ⟨rfl, below_drewN (Below.refl _ _) _⟩

theorem edgesV_at (W a : Int) : ∀ (l : List Nat) (i : Nat), i < l.length → (edgesV W a l)[i * 4]? = some (.int .i64 ((l.getD i 0 : Nat) : Int)) ∧ (edgesV W a l)[i * 4 + 1]? = some (.int .i64 (octS W a ((l.getD i 0 : Nat) : Int))) ∧ (edgesV W a l)[i * 4 + 2]? = some (.int .i64 (octD W a ((l.getD i 0 : Nat) : Int))) ∧ (edgesV W a l)[i * 4 + 3]? = some (.int .i64 (-1))
  | [], i, h => absurd h (Nat.not_lt_zero i)
  | n :: l, 0, _ => ⟨rfl, rfl, rfl, rfl⟩
  | n :: l, i + 1, h => by
    have ih := edgesV_at W a l i (by simpa using h)
    have e : edgesV W a (n :: l) = edgeV W a n ++ edgesV W a l := by unfold edgesV; rw [List.flatMap_cons]
    have hl : (edgeV W a n).length = 4 := rfl
    have e2 : (n :: l).getD (i + 1) 0 = l.getD i 0 := rfl
    rw [e, e2]
    refine ⟨?_, ?_, ?_, ?_⟩
    · rw [List.getElem?_append_right (by omega), hl, show (i + 1) * 4 - 4 = i * 4 by omega]; exact ih.1
    · rw [List.getElem?_append_right (by omega), hl, show (i + 1) * 4 + 1 - 4 = i * 4 + 1 by omega]; exact ih.2.1
    · rw [List.getElem?_append_right (by omega), hl, show (i + 1) * 4 + 2 - 4 = i * 4 + 2 by omega]; exact ih.2.2.1
    · rw [List.getElem?_append_right (by omega), hl, show (i + 1) * 4 + 3 - 4 = i * 4 + 3 by omega]; exact ih.2.2.2

/-- a corner that a cell beside, that was looked at, is directly near -/
def Tch (W H : Int) (bl : Nat → Bool) (x y ny nx z : Int) : Prop := cornB W H bl z = true ∧ ∃ p, (inB W H p = true ∧ bl p.toNat = false ∧ Dir W H bl p z) ∧ (x - 1 ≤ p % W ∧ p % W ≤ x + 1 ∧ y - 1 ≤ p / W ∧ p / W ≤ y + 1) ∧ (p / W < ny ∨ (p / W = ny ∧ p % W < nx))
section
variable {W H x y ny nx z : Int} {bl : Nat → Bool}
theorem Tch.none : ¬ Tch W H bl x y (y - 1) (x - 1) z := by
  rintro ⟨_, p, _, h1, h2⟩
  omega
theorem Tch.row : Tch W H bl x y ny (x + 1 + 1) z ↔ Tch W H bl x y (ny + 1) (x - 1) z := by
  unfold Tch
  refine and_congr Iff.rfl (exists_congr fun p => and_congr Iff.rfl ?_)
  constructor
  · rintro ⟨h1, h2⟩; exact ⟨h1, by omega⟩
  · rintro ⟨h1, h2⟩; exact ⟨h1, by omega⟩
theorem Tch.all : Tch W H bl x y (y + 1 + 1) (x - 1) z ↔ cornB W H bl z = true ∧ ∃ p, (inB W H p = true ∧ bl p.toNat = false ∧ Dir W H bl p z) ∧ (x - 1 ≤ p % W ∧ p % W ≤ x + 1 ∧ y - 1 ≤ p / W ∧ p / W ≤ y + 1) := by
  unfold Tch
  refine and_congr Iff.rfl (exists_congr fun p => ?_)
  constructor
  · rintro ⟨h0, h1, h2⟩; exact ⟨h0, h1⟩
  · rintro ⟨h0, h1⟩; exact ⟨h0, h1, by omega⟩
/-- a place that is none -/
theorem Tch.skip (h : ∀ p, inB W H p = true → bl p.toNat = false → ¬ (p / W = ny ∧ p % W = nx)) : Tch W H bl x y ny (nx + 1) z ↔ Tch W H bl x y ny nx z := by
  unfold Tch
  refine and_congr Iff.rfl (exists_congr fun p => and_congr_right fun h0 => and_congr_right fun h1 => ?_)
  have := h p h0.1 h0.2.1
  omega
/-- the cell at the place -/
theorem Tch.cell {c : Int} (hx : nx = c % W) (hy : ny = c / W) (hc : inB W H c = true) (hf : bl c.toNat = false) (h1 : x - 1 ≤ nx) (h2 : nx ≤ x + 1) (h3 : y - 1 ≤ ny) (h4 : ny ≤ y + 1) :
    Tch W H bl x y ny (nx + 1) z ↔ Tch W H bl x y ny nx z ∨ (Dir W H bl c z ∧ cornB W H bl z = true) := by
  unfold Tch
  constructor
  · rintro ⟨hz, p, h5, h6, h7⟩
    by_cases e : p / W = ny ∧ p % W = nx
    · right
      have : p = c := by
        have e1 := cell_eq W p
        have e2 := cell_eq W c
        rw [← e1, ← e2, e.1, e.2, hx, hy]
      rw [this] at h5
      exact ⟨h5.2.2, hz⟩
    · exact Or.inl ⟨hz, p, h5, h6, by omega⟩
  · rintro (⟨hz, p, h5, h6, h7⟩ | ⟨hd, hz⟩)
    · exact ⟨hz, p, h5, h6, by omega⟩
    · exact ⟨hz, c, ⟨hc, hf, hd⟩, by omega, by omega⟩
end

set_option maxHeartbeats 4000000 in
set_option maxRecDepth 1000000 in
theorem touched_any {b tb : Nat} {W H V c x y : Int} {bl : Nat → Bool} {T : Int → Bool} (w : World) (g : GridAt w b W H V bl) (s : StepsAt w) (hb : b < w.heap.size) (hT : SetAt w tb T) (hbt : b ≠ tb) (h0 : 0 ≠ tb) (hc : inB W H c = true) (hx : c % W = x) (hy : c / W = y) :
    Calls Tryd.prog 28 #[.map (some tb), .pointer (some ⟨b, 0, none⟩), .int .i64 c] w fun e w' => e = .returned (.tuple #[]) ∧ (∃ T', SetAt w' tb T' ∧ ∀ z, T' z = true ↔ T z = true ∨ Tch W H bl x y (y + 1 + 1) (x - 1) z) ∧ Keep (fun k => k = tb) w w' := by
  have gw1 := g.w1
  have gw2 := g.w2
  have gh2 := g.h2
  have hwh := wh_bd g.w1 g.w2 g.h1 g.h2
  obtain ⟨x1, x2, y1, y2⟩ := place_bd g.w1 hc
  rw [hx] at x1 x2
  rw [hy] at y1 y2
  have hpl := fun w g => place_in (b := b) (V := V) (bl := bl) c w g hc
  rw [hx, hy] at hpl
  have B0 : Below w.heap.size w (w.alloc (.cells #[.pointer (some ⟨b, 0, none⟩)] 25)) := (Below.refl _ _).alloc (Nat.le_refl _) _
  have q0 : (w.alloc (.cells #[.pointer (some ⟨b, 0, none⟩)] 25)).cell? ⟨w.heap.size, 0, none⟩ = some (.pointer (some ⟨b, 0, none⟩)) := World.cell?_alloc_at #[.pointer (some ⟨b, 0, none⟩)] 25 w.heap.size 0 rfl
  have htl := hT.lt
  clear hx hy
  go_enter Tryd.func28, Tryd.ntmps28
  go_wp2_with fail
  refine (hpl _ (g.below B0 hb)).mono ?_
  rintro e w1 ⟨rfl, m1, hw1⟩
  have B1 : Below w.heap.size w w1 := by rw [hw1]; exact below_drewN B0 _
  have q1 : w1.cell? ⟨w.heap.size, 0, none⟩ = some (.pointer (some ⟨b, 0, none⟩)) := by rw [hw1]; exact q0
  clear hw1 hpl B0 q0
  have hT1 := hT.below B1
  have K1 : Keep (fun k => k = tb) w w1 := Keep.of_below B1
  clear B1 hT
  go_wp2
  go_loopw [9] (fun iv wr => ∃ (ny : Int) (T' : Int → Bool), iv = .int .i64 ny ∧ y - 1 ≤ ny ∧ ny ≤ y + 1 + 1 ∧ SetAt wr tb T' ∧ Hid (∀ z, T' z = true ↔ T z = true ∨ Tch W H bl x y ny (x - 1) z) ∧ wr.cell? ⟨w.heap.size, 0, none⟩ = some (.pointer (some ⟨b, 0, none⟩)) ∧ Keep (fun k => k = tb) w wr)
    (fun i _ => (y + 1 + 1 - intOf i).toNat)
  case atStart => exact ⟨y - 1, T, rfl, by omega, by omega, hT1, fun z => ⟨Or.inl, fun h => h.resolve_right Tch.none⟩, q1, K1⟩
  case round =>
    obtain ⟨ny, T1, rfl, n1, n2, hT1, hTi, q1, K1⟩ := hrel
    by_cases hlt : ny ≤ y + 1
    · go_wp2
      go_loopw [10] (fun iv wr => ∃ (nx : Int) (T' : Int → Bool), iv = .int .i64 nx ∧ x - 1 ≤ nx ∧ nx ≤ x + 1 + 1 ∧ SetAt wr tb T' ∧ Hid (∀ z, T' z = true ↔ T z = true ∨ Tch W H bl x y ny nx z) ∧ wr.cell? ⟨w.heap.size, 0, none⟩ = some (.pointer (some ⟨b, 0, none⟩)) ∧ Keep (fun k => k = tb) w wr)
        (fun i _ => (x + 1 + 1 - intOf i).toNat)
      case atStart => exact ⟨x - 1, T1, rfl, by omega, by omega, hT1, hTi, q1, K1⟩
      case round =>
        obtain ⟨nx, T2, rfl, m1, m2, hT2, hT2i, q2, K2⟩ := hrel
        by_cases hlx : nx ≤ x + 1
        · have g2 := g.keep K2 hbt
          have s2 := s.keep K2 h0
          have hz2 := K2.size
          cases hat : atB W H nx ny with
          | false =>
            have hce := cell_out nx ny wr g2 hat
            have HS : Hid (∀ z, T2 z = true ↔ T z = true ∨ Tch W H bl x y ny (nx + 1) z) := fun z => (hT2i.out z).trans (or_congr Iff.rfl (Tch.skip (fun p hp _ he => by
              obtain ⟨a1, a2, a3, a4⟩ := place_bd gw1 hp
              have : atB W H nx ny = true := decide_eq_true (by omega)
              rw [hat] at this; cases this)).symm)
            clear hat
            go_wp2_with fail
            refine hce.mono ?_
            rintro e w3 ⟨rfl, rfl⟩
            clear hce
            go_wp2
            go_roundw
            case rel => exact ⟨nx + 1, T2, by go_num, by omega, by omega, hT2, HS, q2, K2⟩
            case measure => simp [intOf]; omega
          | true =>
            have hce := cell_in nx ny wr g2 hat
            obtain ⟨a1, a2, a3, a4⟩ : 0 ≤ nx ∧ nx < W ∧ 0 ≤ ny ∧ ny < H := of_decide_eq_true hat
            have hm0 : 0 ≤ ny * W := Int.mul_nonneg a3 (by omega)
            have hpx : nx = (ny * W + nx) % W := by rw [Int.add_comm, Int.add_mul_emod_self_right]; exact (Int.emod_eq_of_lt a1 a2).symm
            have hpy : ny = (ny * W + nx) / W := by rw [Int.add_comm, Int.add_mul_ediv_right _ _ (by omega), Int.ediv_eq_zero_of_lt a1 a2]; omega
            have hpin : inB W H (ny * W + nx) = true := by
              have h2 : ny * W + W ≤ H * W := by
                have := Int.mul_le_mul_of_nonneg_right (show ny + 1 ≤ H by omega) (show 0 ≤ W by omega)
                rw [Int.add_mul] at this
                omega
              have h3 : H * W = W * H := Int.mul_comm H W
              exact decide_eq_true ⟨by omega, by omega⟩
            have hfree : bl (ny * W + nx).toNat = false ∨ bl (ny * W + nx).toNat = true := by cases bl (ny * W + nx).toNat <;> simp
            have HPX : Hid (nx = (ny * W + nx) % W) := hpx
            have HPY : Hid (ny = (ny * W + nx) / W) := hpy
            have hpb : 0 ≤ ny * W + nx ∧ ny * W + nx < W * H := of_decide_eq_true hpin
            clear hat hpx hpy hm0
            generalize ny * W + nx = p at *
            have hw2 : b < wr.heap.size := Nat.lt_of_lt_of_le hb hz2
            go_wp2_with fail
            refine hce.mono ?_
            rintro e w3 ⟨rfl, rfl⟩
            clear hce
            rcases hfree with hfree | hfree
            · have hfind := find_touch (rb := w.heap.size) (p := fun n => cornB W H bl n) w3 g2 s2 hw2 hpin hfree (fun w' n hB' hn => by
                have kk : ∀ {a : Addr} {v : Value}, w3.cell? a = some v → w'.cell? a = some v := fun {a v} h => (hB'.cell (World.block_lt_of_cell? w3 a h)).trans h
                exact clo_touch w' n (kk q2) (g2.below hB' hw2) (s2.below hB' (by omega)) hn)
              go_wp2_with fail
              refine hfind.mono ?_
              rintro e w4 ⟨v, l, rfl, hown, ⟨hrise, hmem⟩, hb4⟩
              have HM : Hid (∀ n : Nat, n ∈ l ↔ Dir W H bl p n ∧ cornB W H bl n = true) := hmem
              have hin : ∀ n ∈ l, n < 256 := fun n hn => by
                have h2 : 0 ≤ (n : Int) ∧ (n : Int) < W * H := of_decide_eq_true (cornC_in gw1 (cornB_iff.1 ((hmem n).1 hn).2))
                omega
              have hLL : l.length ≤ 256 := nodup_len 256 (hrise.imp (fun h e => by omega)) hin
              have HIN : Hid (∀ n ∈ l, n < 256) := hin
              have HS : Hid (∀ T4 : Int → Bool, (∀ z, T4 z = true ↔ T2 z = true ∨ ∃ i, i < l.length ∧ z = ((l.getD i 0 : Nat) : Int)) → ∀ z, T4 z = true ↔ T z = true ∨ Tch W H bl x y ny (nx + 1) z) := fun T4 h4 z => by
                rw [h4 z, hT2i.out z, Tch.cell HPX.out HPY.out hpin hfree m1 hlx n1 hlt, or_assoc]
                refine or_congr Iff.rfl (or_congr Iff.rfl ?_)
                constructor
                · rintro ⟨i, hi, rfl⟩
                  exact (HM.out _).1 (by rw [getD_at _ _ hi]; exact List.getElem_mem hi)
                · rintro ⟨hd, hz⟩
                  have hzi : 0 ≤ z ∧ z < W * H := of_decide_eq_true (cornC_in gw1 (cornB_iff.1 hz))
                  have hm : z.toNat ∈ l := (HM.out z.toNat).2 (by rw [Int.toNat_of_nonneg hzi.1]; exact ⟨hd, hz⟩)
                  obtain ⟨i, hi, h⟩ := List.getElem_of_mem hm
                  exact ⟨i, hi, by rw [getD_at _ _ hi, h]; omega⟩
              obtain ⟨A, cap, rfl⟩ : ∃ A cap, v = .slice A l.length cap := by
                rcases hown.2 with ⟨rfl, h0⟩ | ⟨g', cap, cur, rfl, _⟩
                · exact ⟨none, 0, by rw [h0]⟩
                · exact ⟨_, _, rfl⟩
              have hT4 := hT2.below hb4
              have q4 := (hb4.cell (World.block_lt_of_cell? _ _ q2)).trans q2
              have K4 := K2.below hb4
              clear hfind hmem hrise hin hb4 g2 s2
              go_wp2
              go_loopw [52] (fun iv wr => ∃ (j : Nat) (T4 : Int → Bool), j ≤ l.length ∧ iv = .int .i64 j ∧ SetAt wr tb T4 ∧ Hid (∀ z, T4 z = true ↔ T2 z = true ∨ ∃ i, i < j ∧ z = ((l.getD i 0 : Nat) : Int)) ∧ wr.ownsRow w3.heap.size 77 4 (.slice A l.length cap) l.length (edgesV W p l) ∧ wr.cell? ⟨w.heap.size, 0, none⟩ = some (.pointer (some ⟨b, 0, none⟩)) ∧ Keep (fun k => k = tb) w wr)
                (fun i _ => l.length - (intOf i).toNat)
              case atStart => exact ⟨0, T2, Nat.zero_le _, rfl, hT4, fun z => ⟨Or.inl, fun h => h.resolve_right (fun ⟨i, hi, _⟩ => by omega)⟩, hown, q4, K4⟩
              case round =>
                obtain ⟨j, T4, hj, rfl, hT4, hT4i, hrow, q4, K4⟩ := hrel
                by_cases hlj : j < l.length
                · obtain ⟨ba, hA⟩ : ∃ ba, A = some ⟨ba, 0, none⟩ := by
                    rcases hrow.2 with ⟨_, h0⟩ | ⟨ba, _, _, hv, _⟩
                    · omega
                    · exact ⟨ba, by cases hv; rfl⟩
                  subst hA
                  obtain ⟨e0, e1, e2, e3⟩ := edgesV_at W p l j hlj
                  have hnm : l.getD j 0 ∈ l := by rw [getD_at _ _ hlj]; exact List.getElem_mem hlj
                  have hn2 := HIN.out _ hnm
                  have c0 : wr.cell? ⟨ba, j * 4, none⟩ = some (.int .i64 ((l.getD j 0 : Nat) : Int)) := (hrow.cellAt (j * 4) (by omega)).trans e0
                  have c1 : wr.cell? ⟨ba, j * 4 + 1, none⟩ = _ := (hrow.cellAt (j * 4 + 1) (by omega)).trans e1
                  have c2 : wr.cell? ⟨ba, j * 4 + 2, none⟩ = _ := (hrow.cellAt (j * 4 + 2) (by omega)).trans e2
                  have c3 : wr.cell? ⟨ba, j * 4 + 3, none⟩ = _ := (hrow.cellAt (j * 4 + 3) (by omega)).trans e3
                  have HJ : Hid (∀ z : Int, (∃ i, i < j + 1 ∧ z = ((l.getD i 0 : Nat) : Int)) ↔ (∃ i, i < j ∧ z = ((l.getD i 0 : Nat) : Int)) ∨ z = ((l.getD j 0 : Nat) : Int)) := fun z => by
                    constructor
                    · rintro ⟨i, hi, h⟩
                      by_cases e : i = j
                      · subst e; exact Or.inr h
                      · exact Or.inl ⟨i, by omega, h⟩
                    · rintro (⟨i, hi, h⟩ | h)
                      · exact ⟨i, by omega, h⟩
                      · exact ⟨j, by omega, h⟩
                  clear e0 e1 e2 e3 hnm
                  generalize octS W p ((l.getD j 0 : Nat) : Int) = es at *
                  generalize octD W p ((l.getD j 0 : Nat) : Int) = ed at *
                  have z0 : (0 : Int) ≤ ((l.getD j 0 : Nat) : Int) := by omega
                  have z1 : ((l.getD j 0 : Nat) : Int) < 256 := by omega
                  generalize ((l.getD j 0 : Nat) : Int) = zz at *
                  have i1 : (0 : Int) ≤ (j : Int) := by omega
                  have i2 : (j : Int) < (l.length : Int) := by omega
                  have hT5 := hT4.grown (World.grownBy_alloc wr (.cells #[.int .i64 zz, .int .i64 es, .int .i64 ed, .int .i64 (-1)] 77) none) (by simp)
                  go_wp2_with (first | (at_mapUpdate; refine wpList_put rfl _ _ _ 79 rfl 3 94 law3 Tryd.underT tb _ _ rfl hT5.mp hT5.room zz (.agg #[]) rfl rfl (wf_small z0 z1) ?_; intro w5 hm5 ht5; go_frame) | go_in)
                  have hT6 := hT5.put z0 z1 hm5
                  have hg5 := ht5.grown
                  have K6 : Keep (fun k => k = tb) w w5 := (K4.alloc _).grown hg5 (fun k e h => by cases e; rfl)
                  have R6 := own_grown (hrow.alloc _) hg5 (fun g' hg' e => own_map hrow hT4.mp g' hg' (Option.some.inj e))
                  have q6 : w5.cell? ⟨w.heap.size, 0, none⟩ = some (.pointer (some ⟨b, 0, none⟩)) := (turned_keep ht5).cellOf ((World.cell?_alloc_old _ _ _ (Nat.ne_of_lt (World.block_lt_of_cell? _ _ q4))).trans q4) (show w.heap.size ≠ tb by omega)
                  clear hm5 ht5 hg5 hT5 hT4 hrow K4 c0 c1 c2 c3
                  go_roundw
                  case rel =>
                    refine ⟨j + 1, _, by omega, by go_num, hT6, fun z => ?_, R6, q6, K6⟩
                    rw [insS_iff, hT4i.out z, HJ.out z]
                    exact ⟨fun h => h.elim (fun e => Or.inr (Or.inr e)) (fun h => h.imp id Or.inl), fun h => h.elim (fun e => Or.inr (Or.inl e)) (fun h => h.elim (fun e => Or.inr (Or.inr e)) Or.inl)⟩
                  case measure => simp [intOf]; omega
                · have e : j = l.length := by omega
                  subst e
                  have HS2 := HS.out T4 hT4i.out
                  go_wp2
                  go_roundw
                  case rel => exact ⟨nx + 1, T4, by go_num, by omega, by omega, hT4, HS2, q4, K4⟩
                  case measure => simp [intOf]; omega
            · have hff : ffv W H bl p ≠ 0 := by unfold ffv; rw [hpin, hfree]; decide
              have hfind := find_touch_err (rb := w.heap.size) w3 g2 hff
              have HS : Hid (∀ z, T2 z = true ↔ T z = true ∨ Tch W H bl x y ny (nx + 1) z) := fun z => (hT2i.out z).trans (or_congr Iff.rfl (Tch.skip (fun q hq hqf he => by
                have e1 := cell_eq W q
                have e2 := cell_eq W p
                have : q = p := by rw [← e1, ← e2, he.1, he.2, ← HPX.out, ← HPY.out]
                rw [this, hfree] at hqf; cases hqf)).symm)
              go_wp2_with fail
              refine hfind.mono ?_
              rintro e w4 ⟨rfl, hb4⟩
              have hT4 := hT2.below hb4
              have q4 := (hb4.cell (World.block_lt_of_cell? _ _ q2)).trans q2
              have K4 := K2.below hb4
              clear hfind g2 s2 hb4
              go_wp2
              go_loopw [52] (fun iv wr => iv = .int .i64 0 ∧ SetAt wr tb T2 ∧ wr.cell? ⟨w.heap.size, 0, none⟩ = some (.pointer (some ⟨b, 0, none⟩)) ∧ Keep (fun k => k = tb) w wr) (fun _ _ => 0)
              case atStart => exact ⟨rfl, hT4, q4, K4⟩
              case round =>
                obtain ⟨rfl, hT4, q4, K4⟩ := hrel
                go_wp2
                go_roundw
                case rel => exact ⟨nx + 1, T2, by go_num, by omega, by omega, hT4, HS, q4, K4⟩
                case measure => simp [intOf]; omega
        · have e : nx = x + 1 + 1 := by omega
          subst e
          go_wp2
          go_roundw
          case rel => exact ⟨ny + 1, T2, by go_num, by omega, by omega, hT2, fun z => (hT2i.out z).trans (or_congr Iff.rfl Tch.row), q2, K2⟩
          case measure => simp [intOf]; omega
    · have e : ny = y + 1 + 1 := by omega
      subst e
      go_wp2
      go_end0
      exact ⟨rfl, ⟨T1, hT1, hTi.out⟩, K1⟩
end Go.Proofs.YtcagpmglijockaaDoor
/-
  Whatever was not touched has the edges that it had.
-/
namespace Go.Proofs.YtcagpmglijockaaDoor

section
variable {W H c0 : Int} {bl bl' : Nat → Bool}
theorem loc_corn (hbl : ∀ n : Nat, (n : Int) ≠ c0 → bl n = bl' n) (w1 : 1 ≤ W) {c : Int} (h : ¬ Tch W H bl (c0 % W) (c0 / W) (c0 / W + 1 + 1) (c0 % W - 1) c) (hc : cornB W H bl c = true) :
    (∀ p, inB W H p = true → bl p.toNat = false → Blk W c0 p → ¬ Dir W H bl p c) ∧ ¬ Blk W c0 c ∧ cornB W H bl' c = true := by
  rw [Tch.all] at h
  have hno : ∀ p, inB W H p = true → bl p.toNat = false → Blk W c0 p → ¬ Dir W H bl p c := fun p hp hf hB hd => h ⟨hc, p, ⟨hp, hf, hd⟩, by unfold Blk at hB; omega⟩
  have hin := cornC_in w1 (cornB_iff.1 hc)
  have hnb : ¬ Blk W c0 c := fun hB => hno c hin (corn_free hc) hB (Dir.self w1)
  exact ⟨hno, hnb, cornB_iff.2 (far_corn hbl hnb (cornB_iff.1 hc))⟩

theorem loc_edge (hbl : ∀ n : Nat, (n : Int) ≠ c0 → bl n = bl' n) (w1 : 1 ≤ W) (w2 : W ≤ 16) (h1 : 1 ≤ H) (h2 : H ≤ 16) {c : Int} (h : ¬ Tch W H bl (c0 % W) (c0 / W) (c0 / W + 1 + 1) (c0 % W - 1) c) (hc : cornB W H bl c = true) (d : Int) (hd : Dir W H bl c d ∧ (decide (d ≠ c) && cornB W H bl d) = true) :
    Dir W H bl' c d ∧ (decide (d ≠ c) && cornB W H bl' d) = true := by
  obtain ⟨hno, _, _⟩ := loc_corn hbl w1 h hc
  rw [Bool.and_eq_true] at hd
  have hin := cornC_in w1 (cornB_iff.1 hc)
  have hdin := cornC_in w1 (cornB_iff.1 hd.2.2)
  have := oct_small w1 w2 h1 h2 hin hdin
  obtain ⟨k1, k2⟩ := edge_kept hbl w1 (by omega) (by omega) hin (corn_free hc) (cornB_iff.1 hd.2.2) hd.1 hno
  rw [Bool.and_eq_true]
  exact ⟨k2, hd.2.1, cornB_iff.2 k1⟩

/-- whoever was not touched: what the map holds is what is to be there now -/
theorem EOk.loc {w : World} {pb : Nat} {f : Int → Option Value} (hbl : ∀ n : Nat, (n : Int) ≠ c0 → bl n = bl' n) (w1 : 1 ≤ W) (w2 : W ≤ 16) (h1 : 1 ≤ H) (h2 : H ≤ 16) {c : Int}
    (hn : ¬ Tch W H bl (c0 % W) (c0 / W) (c0 / W + 1 + 1) (c0 % W - 1) c) (hn' : ¬ Tch W H bl' (c0 % W) (c0 / W) (c0 / W + 1 + 1) (c0 % W - 1) c) (E : EOk w pb W H bl f c) : EOk w pb W H bl' f c := by
  have hbl' : ∀ n : Nat, (n : Int) ≠ c0 → bl' n = bl n := fun n h => (hbl n h).symm
  refine ⟨fun hc => ?_, fun hc => ?_⟩
  · have hc0 := (loc_corn hbl' w1 hn' hc).2.2
    obtain ⟨v, l, e1, e2, e3, e4⟩ := E.yes hc0
    refine ⟨v, l, e1, e2, ⟨e3.1, fun n => ?_⟩, e4⟩
    rw [e3.2 n]
    exact ⟨loc_edge hbl w1 w2 h1 h2 hn hc0 n, loc_edge hbl' w1 w2 h1 h2 hn' hc n⟩
  · refine E.no ?_
    cases hb : cornB W H bl c with
    | false => rfl
    | true =>
      have := (loc_corn hbl w1 hn hb).2.2
      rw [hc] at this; cases this
end
end Go.Proofs.YtcagpmglijockaaDoor
/-
  A cell of a graph is set: package graph's 'Set'.
-/
namespace Go.Proofs.YtcagpmglijockaaDoor
open Go.RowKit

theorem Touch.keep {b : Nat} {w w' : World} (h : Touch b w w') : Keep (fun k => k = b) w w' := ⟨h.os, h.tape, h.output, by rw [h.size]; exact Nat.le_refl _, fun i _ hn => h.other i hn⟩
theorem EOk.kept {F : Nat → Prop} {w w' : World} {pb : Nat} {W H c : Int} {bl : Nat → Bool} {f f' : Int → Option Value} (E : EOk w pb W H bl f c) (K : Keep F w w') (hF : ∀ v l g, f c = some v → w.ownsRow 0 77 4 v (List.length l) (edgesV W c l) → v.ownBlock = some g → pb < g → ¬ F g) (hf : f' c = f c) : EOk w' pb W H bl f' c := by
  refine ⟨fun h => ?_, fun h => hf.trans (E.no h)⟩
  obtain ⟨v, l, h1, h2, h3, h4⟩ := E.yes h
  exact ⟨v, l, hf.trans h1, own_keep h2 K (fun g hg => hF v l g h1 h2 hg (h4 g hg)), h3, h4⟩

theorem mkmapT (w : World) : (Instr.makeMap 79 none).run Tryd.prog w = .ok (.map (some w.heap.size)) (w.alloc (.map #[] 0)) := by kernel_rfl

set_option maxHeartbeats 1000000 in
theorem gset_out {rb pb mb : Nat} {W H V c : Int} {bl : Nat → Bool} (v : Bool) (w : World) (G : GraphAt w rb pb mb W H V bl) (hc : inB W H c = false) :
    Calls Tryd.prog 11 #[.pointer (some ⟨rb, 0, none⟩), .int .i64 c, .bool v] w fun e w' => e = .returned (.tuple #[.bool false, .iface 53 (.int .i64 1)]) ∧ Below w.heap.size w w' := by
  obtain ⟨f, G, E⟩ := G
  have p0 := G.p0
  obtain ⟨l1, l2, l3⟩ := G.lts
  have hcp := copy_any w G.ga
  go_enter Tryd.func11, Tryd.ntmps11
  go_wp2_with fail
  refine hcp.mono ?_
  rintro e w1 ⟨rfl, hb1, hs1, g1, fr1⟩
  have hse := set_out c v w1 (G.ga.below hb1 l2) hc
  have p0 := (hb1.cell (p := ⟨rb, 0, none⟩) l1).trans p0
  clear hcp G E g1 fr1
  go_wp2_with fail
  refine hse.mono ?_
  rintro e w2 ⟨rfl, m2, rfl⟩
  clear hse
  go_wp2
  go_ret2
  exact ⟨rfl, below_drewN hb1 _⟩

set_option maxHeartbeats 1000000 in
theorem gset_same {rb pb mb c : Nat} {W H V : Int} {bl : Nat → Bool} (v : Bool) (w : World) (G : GraphAt w rb pb mb W H V bl) (hc : inB W H c = true) (hv : bl c = v) :
    Calls Tryd.prog 11 #[.pointer (some ⟨rb, 0, none⟩), .int .i64 c, .bool v] w fun e w' => e = .returned (.tuple #[.bool false, .nilIface]) ∧ Below w.heap.size w w' := by
  obtain ⟨f, G, E⟩ := G
  have p0 := G.p0
  obtain ⟨l1, l2, l3⟩ := G.lts
  have hcp := copy_any w G.ga
  go_enter Tryd.func11, Tryd.ntmps11
  go_wp2_with fail
  refine hcp.mono ?_
  rintro e w1 ⟨rfl, hb1, hs1, g1, fr1⟩
  have hse := set_same c v w1 (G.ga.below hb1 l2) hc hv
  have p0 := (hb1.cell (p := ⟨rb, 0, none⟩) l1).trans p0
  clear hcp G E g1 fr1
  go_wp2_with fail
  refine hse.mono ?_
  rintro e w2 ⟨rfl, m2, rfl⟩
  clear hse
  go_wp2
  go_ret2
  exact ⟨rfl, below_drewN hb1 _⟩

set_option maxHeartbeats 4000000 in
set_option maxRecDepth 1000000 in
theorem gset_new {rb pb mb c : Nat} {W H V : Int} {bl : Nat → Bool} (v : Bool) (w : World) (G : GraphAt w rb pb mb W H V bl) (s : StepsAt w) (hc : inB W H c = true) (hv : bl c = !v) (v1 : 0 ≤ V) (v2 : V ≤ 1000000) (h0 : 0 ≠ pb) (h0m : 0 ≠ mb) :
    Calls Tryd.prog 11 #[.pointer (some ⟨rb, 0, none⟩), .int .i64 c, .bool v] w fun e w' => e = .returned (.tuple #[.bool true, .nilIface]) ∧ GraphAt w' rb pb mb W H (V + 1) (upd bl c v) ∧ Keep (fun k => k = pb ∨ k = mb) w w' := by
  obtain ⟨f, G, E⟩ := G
  have p0 := G.p0
  obtain ⟨l1, l2, l3⟩ := G.lts
  obtain ⟨n1, n2⟩ := G.ne
  have hrp := G.rp
  have gw1 := G.ga.w1
  have gw2 := G.ga.w2
  have gh1 := G.ga.h1
  have gh2 := G.ga.h2
  have hspos := s.pos
  have hwh := wh_bd G.ga.w1 G.ga.w2 G.ga.h1 G.ga.h2
  have hbl : Hid (∀ n : Nat, (n : Int) ≠ (c : Int) → bl n = upd bl c v n) := fun n hn => by unfold upd; rw [if_neg (by omega)]
  have hcp := copy_any w G.ga
  have HE : Hid (∀ c : Int, EOk w pb W H bl f c) := E
  clear E
  go_enter Tryd.func11, Tryd.ntmps11
  go_wp2_with fail
  refine hcp.mono ?_
  rintro e w1 ⟨rfl, hb1, hs1, g1, fr1⟩
  have G1 := G.below hb1
  have hse := set_new c v w1 G1.ga G1.fr hc hv v1 v2
  have p01 := G1.p0
  clear hcp fr1 p0 hv
  go_wp2_with fail
  refine hse.mono ?_
  rintro e w2 ⟨rfl, ht2, g2, fr2⟩
  clear hse
  generalize hblv : upd bl c v = bl' at *
  have HBV : Hid (upd bl c v = bl') := hblv
  clear hblv
  have K2 := ht2.keep
  have gb2 := g1.keep K2 (show w.heap.size ≠ pb by omega)
  have p02 := K2.cellOf p01 hrp
  have p12 := K2.cellOf G1.p1 hrp
  have m2 : MapF Tryd.prog 3 w2 mb f (cntS (keyB f) 256) := G1.mp.keep K2 (fun e => n2 e.symm)
  have s2 := (s.below hb1 hspos).keep K2 h0
  have hz2 : w1.heap.size = w2.heap.size := ht2.size.symm
  have G2 : GSt w2 rb pb mb W H (V + 1) bl' f := ⟨p02, p12, g2, m2, G.bd, fr2, hrp⟩
  have KK2 : Keep (fun k => k = pb ∨ k = mb) w w2 := (Keep.of_below hb1).trans K2 (fun _ _ h => Or.inl h)
  have HE2 : Hid (∀ c : Int, EOk w2 pb W H bl f c) := fun c => ((HE.out c).below hb1).kept K2 (fun v l g _ _ _ hg e => by omega) rfl
  clear G1 G g1 g2 fr2 m2 p12 p01 HE K2 ht2
  have hmk := mkmapT w2
  have hT0 := SetAt.made w2
  have B3 : Below w2.heap.size w2 (w2.alloc (.map #[] 0)) := (Below.refl _ _).alloc (Nat.le_refl _) _
  have hz1 := hb1.size
  have hta := touched_any (c := (c : Int)) (w2.alloc (.map #[] 0)) (gb2.below B3 (by omega)) (s2.below B3 (by omega)) (by simp; omega) hT0 (by omega) (by omega) hc rfl rfl
  go_wp2_with fail
  refine hta.mono ?_
  rintro e w3 ⟨rfl, ⟨T1, hT1, hT1i⟩, K3⟩
  have p03 := K3.cellOf ((B3.cell (p := ⟨rb, 0, none⟩) (show rb < w2.heap.size by omega)).trans p02) (show rb ≠ w2.heap.size by omega)
  have G3 := (G2.below B3).keep K3 (show rb ≠ w2.heap.size by omega) (show pb ≠ w2.heap.size by omega) (show mb ≠ w2.heap.size by omega)
  have s3 := (s2.below B3 (by omega)).keep K3 (show 0 ≠ w2.heap.size by omega)
  have KK3 : Keep (fun k => k = pb ∨ k = mb) w w3 := (KK2.below B3).trans K3 (fun i hi h => by omega)
  have HE3 : Hid (∀ c : Int, EOk w3 pb W H bl f c) := fun c => ((HE2.out c).below B3).kept K3 (fun v l g hfc ho hg _ e => own_map (own_below ho (Below.refl _ _)) hT0.mp g hg e) rfl
  have HT1 : Hid (∀ z, T1 z = true ↔ Tch W H bl ((c : Int) % W) ((c : Int) / W) ((c : Int) / W + 1 + 1) ((c : Int) % W - 1) z) := fun z => (hT1i z).trans ⟨fun h => h.resolve_left (by decide), Or.inr⟩
  have hz3' : w2.heap.size + 1 ≤ w3.heap.size := by have := K3.size; rw [show (w2.alloc (.map #[] 0)).heap.size = w2.heap.size + 1 by simp] at this; exact this
  have htb := touched_any (c := (c : Int)) w3 G3.ga s3 G3.lts.2.1 hT1 (show pb ≠ w2.heap.size by omega) (by omega) hc rfl rfl
  clear hta hmk hT0 B3 G2 gb2 s2 HE2 KK2 K3 hT1i p02
  go_wp2_with fail
  refine htb.mono ?_
  rintro e w4 ⟨rfl, ⟨T, hT, hTi⟩, K4⟩
  have G4 := G3.keep K4 (show rb ≠ w2.heap.size by omega) (show pb ≠ w2.heap.size by omega) (show mb ≠ w2.heap.size by omega)
  have s4 := s3.keep K4 (show 0 ≠ w2.heap.size by omega)
  have KK4 : Keep (fun k => k = pb ∨ k = mb) w w4 := KK3.trans K4 (fun i hi h => by omega)
  have HE4 : Hid (∀ c : Int, EOk w4 pb W H bl f c) := fun c => (HE3.out c).kept K4 (fun v l g hfc ho hg _ e => own_map ho hT1.mp g hg e) rfl
  have HT : Hid (∀ z, T z = true ↔ Tch W H bl ((c : Int) % W) ((c : Int) / W) ((c : Int) / W + 1 + 1) ((c : Int) % W - 1) z ∨ Tch W H bl' ((c : Int) % W) ((c : Int) / W) ((c : Int) / W + 1 + 1) ((c : Int) % W - 1) z) := fun z => (hTi z).trans (or_congr (HT1.out z) Iff.rfl)
  have hz4 := K4.size
  have htl := hT.lt
  generalize htbn : w2.heap.size = tb at *
  clear htb G3 s3 HE3 KK3 K4 hTi hT1 HT1 p03 htbn
  go_wp2_with (first | (at_range; refine wpList_rangeF rfl _ 79 rfl 3 94 law3 Tryd.underT tb _ _ rfl hT.mp ?_; intro w5 hrg5 hg5 hs5) | go_in)
  have b5 : Below w4.heap.size w4 w5 := (Below.refl _ _).grown hg5 (Nat.le_refl _) (by simp)
  have G5 := G4.below b5
  have s5 := s4.below b5 (by omega)
  have KK5 := KK4.below b5
  have HE5 : Hid (∀ c : Int, EOk w5 pb W H bl f c) := fun c => (HE4.out c).below b5
  generalize hrn : w4.heap.size = r at *
  clear G4 s4 KK4 HE4 b5 hg5
  go_frame
  go_loopg [] (cntS T 256) (fun gk wr => ∃ left cnt f', gk = cnt ∧ RngS wr tb r T left cnt ∧ GSt wr rb pb mb W H (V + 1) bl' f' ∧ StepsAt wr ∧ Hid (∀ i : Int, T i = true → left i = false → EOk wr pb W H bl' f' i) ∧ Hid (∀ i : Int, ¬ (T i = true ∧ left i = false) → EOk wr pb W H bl f' i) ∧ Keep (fun k => k = pb ∨ k = mb) w wr)
  case atStart =>
    refine ⟨_, _, f, rfl, hrg5, G5, s5, fun i h1 h2 => ?_, fun i _ => HE5.out i, KK5⟩
    rw [setF_isSome, h1] at h2
    cases h2
  case round =>
    obtain ⟨left, cnt, f', hgk, hrg, Gr, sr, hyes, hno, hK⟩ := hrel
    go_wp2_with (first | (at_next; refine wpList_nextF rfl _ rfl 3 law3 tb r _ _ _ _ rfl hrg ?_ ?_) | go_in)
    · intro hc0 hl0
      have HF : Hid (∀ i : Int, EOk wr pb W H bl' f' i) := fun i => by
        by_cases hti : T i = true
        · exact hyes.out i hti (hl0 i)
        · have hnt := fun h => hti ((HT.out i).2 h)
          exact (hno.out i (fun h => hti h.1)).loc hbl.out gw1 gw2 gh1 gh2 (fun h => hnt (Or.inl h)) (fun h => hnt (Or.inr h))
      clear hyes hno
      go_wp2
      go_ret2
      rw [HBV.out]
      exact ⟨rfl, ⟨f', Gr, HF.out⟩, hK⟩
    · intro x v' w6 cnt1 hwx hlx hfx hrg1 hlt hg1 hs1 hen
      obtain ⟨hTx, rfl⟩ := setF_val hfx
      have hxin : inB W H x = true := by
        rcases (HT.out x).1 hTx with h | h
        · exact cornC_in gw1 (cornB_iff.1 h.1)
        · exact cornC_in gw1 (cornB_iff.1 h.1)
      have kr : Keep (fun k => k = r) wr w6 := (Keep.refl _ _).grown hg1 (fun k e _ => by cases e; rfl)
      have hzr := hK.size
      have G6 := Gr.keep kr (show rb ≠ r by omega) (show pb ≠ r by omega) (show mb ≠ r by omega)
      have s6 := sr.keep kr (show 0 ≠ r by omega)
      have K6 : Keep (fun k => k = pb ∨ k = mb) w w6 := hK.trans kr (fun i hi h => by omega)
      have hlk := look_any w6 G6 s6 hxin
      go_wp2_with fail
      refine hlk.mono ?_
      rintro e w7 ⟨rfl, ⟨f2, G7, hf2, E7⟩, K7⟩
      have hrg2 := hrg1.keep K7 (show tb ≠ mb by omega) (show r ≠ mb by omega)
      have s7 := s6.keep K7 h0m
      have K7' : Keep (fun k => k = pb ∨ k = mb) w w7 := K6.trans K7 (fun i hi h => Or.inr h)
      have HY : Hid (∀ i : Int, T i = true → (left i && !decide (i = x)) = false → EOk w7 pb W H bl' f2 i) := fun i h1 h2 => by
        by_cases e : i = x
        · rw [e]; exact E7
        · refine ((hyes.out i h1 (by rw [decide_eq_false e] at h2; simpa using h2)).kept kr (fun v l g hfc ho hg _ e => own_rng ho hrg g hg (by rw [e])) rfl).kept K7 (fun v l g hfc ho hg _ e => own_map ho G6.mp g hg e) (hf2 i e)
      have HN : Hid (∀ i : Int, ¬ (T i = true ∧ (left i && !decide (i = x)) = false) → EOk w7 pb W H bl f2 i) := fun i h => by
        have e : i ≠ x := fun e => h ⟨by rw [e]; exact hTx, by rw [decide_eq_true e]; simp⟩
        refine ((hno.out i (fun h2 => h ⟨h2.1, by rw [h2.2]; rfl⟩)).kept kr (fun v l g hfc ho hg _ e => own_rng ho hrg g hg (by rw [e])) rfl).kept K7 (fun v l g hfc ho hg _ e => own_map ho G6.mp g hg e) (hf2 i e)
      clear hlk hyes hno Gr sr hrg hrg1 kr G6 s6 K6 K7 E7 hf2
      go_wp2
      go_roundg cnt1
      case measure => omega
      case rel => exact ⟨_, cnt1, f2, rfl, hrg2, G7, s7, HY, HN, K7'⟩
end Go.Proofs.YtcagpmglijockaaDoor
