/-
  Texts laid together: Touch, SameE, REdges, CornerW, RGraph.
-/
import Derived.Test.YtcagpmglijockaaGreatDoorP11
import Derived.Great.BuildSlice
import Derived.Deep.RegionHeld3
import Derived.Deep.AppendLies
/-
  The corners whose edges may hang on a cell: package graph's 'addTouched'.
-/
namespace Go.Proofs.YtcagpmglijockaaGreatDoor
open Go.RowKit

theorem Tryz.underT : Tryz.prog.underlying 73 = some (.map 3 109) := by kernel_rfl
set_option maxHeartbeats 400000 in
theorem clo_touch {xb pb : Nat} {W H V : Int} {bl : Nat → Bool} (w : World) (n : Int) (q2 : w.cell? ⟨xb, 0, none⟩ = some (.pointer (some ⟨pb, 0, none⟩))) (g : GridAt w pb W H V bl) (s : StepsAt w) (hn : inB W H n = true) :
    Calls Tryz.prog 57 #[.int .i64 n, .pointer (some ⟨xb, 0, none⟩)] w fun e w' => e = .returned (.bool (cornB W H bl n)) ∧ Below w.heap.size w w' := by
  have h1 := isc_any n w g s hn
  generalize cornB W H bl n = r at *
  go_enter Tryz.func57, Tryz.ntmps57
  go_wp2_with fail
  refine h1.mono ?_
  rintro e1 w1 ⟨rfl, m, rfl⟩
  clear h1
  go_wp2
  go_ret
  exact ⟨rfl, below_drewN (Below.refl _ _) _⟩

theorem edgesV_at (W a : Int) : ∀ (l : List Nat) (i : Nat), i < l.length → (edgesV W a l)[i * 4]? = some (.int .i64 ((l.getD i 0 : Nat) : Int)) ∧ (edgesV W a l)[i * 4 + 1]? = some (.int .i64 (octS W a ((l.getD i 0 : Nat) : Int))) ∧ (edgesV W a l)[i * 4 + 2]? = some (.int .i64 (octD W a ((l.getD i 0 : Nat) : Int))) ∧ (edgesV W a l)[i * 4 + 3]? = some (.int .i64 (-1))
  | [], i, h => absurd h (Nat.not_lt_zero i)
  | n :: l, 0, _ => ⟨rfl, rfl, rfl, rfl⟩
  | n :: l, i + 1, h => by
    have ih := edgesV_at W a l i (by simpa using h)
    have e : edgesV W a (n :: l) = edgeV W a n ++ edgesV W a l := by unfold edgesV; rw [List.flatMap_cons]
    have hl : (edgeV W a n).length = 4 := rfl
    have e2 : (n :: l).getD (i + 1) 0 = l.getD i 0 := rfl
    rw [e, e2]
    refine ⟨?_, ?_, ?_, ?_⟩
    · rw [List.getElem?_append_right (by omega), hl, show (i + 1) * 4 - 4 = i * 4 by omega]; exact ih.1
    · rw [List.getElem?_append_right (by omega), hl, show (i + 1) * 4 + 1 - 4 = i * 4 + 1 by omega]; exact ih.2.1
    · rw [List.getElem?_append_right (by omega), hl, show (i + 1) * 4 + 2 - 4 = i * 4 + 2 by omega]; exact ih.2.2.1
    · rw [List.getElem?_append_right (by omega), hl, show (i + 1) * 4 + 3 - 4 = i * 4 + 3 by omega]; exact ih.2.2.2

/-- a corner that a cell beside, that was looked at, is directly near -/
def Tch (W H : Int) (bl : Nat → Bool) (x y ny nx z : Int) : Prop := cornB W H bl z = true ∧ ∃ p, (inB W H p = true ∧ bl p.toNat = false ∧ Dir W H bl p z) ∧ (x - 1 ≤ p % W ∧ p % W ≤ x + 1 ∧ y - 1 ≤ p / W ∧ p / W ≤ y + 1) ∧ (p / W < ny ∨ (p / W = ny ∧ p % W < nx))
section
variable {W H x y ny nx z : Int} {bl : Nat → Bool}
theorem Tch.none : ¬ Tch W H bl x y (y - 1) (x - 1) z := by
  rintro ⟨_, p, _, h1, h2⟩
  omega
theorem Tch.row : Tch W H bl x y ny (x + 1 + 1) z ↔ Tch W H bl x y (ny + 1) (x - 1) z := by
  unfold Tch
  refine and_congr Iff.rfl (exists_congr fun p => and_congr Iff.rfl ?_)
  constructor
  · rintro ⟨h1, h2⟩; exact ⟨h1, by omega⟩
  · rintro ⟨h1, h2⟩; exact ⟨h1, by omega⟩
theorem Tch.all : Tch W H bl x y (y + 1 + 1) (x - 1) z ↔ cornB W H bl z = true ∧ ∃ p, (inB W H p = true ∧ bl p.toNat = false ∧ Dir W H bl p z) ∧ (x - 1 ≤ p % W ∧ p % W ≤ x + 1 ∧ y - 1 ≤ p / W ∧ p / W ≤ y + 1) := by
  unfold Tch
  refine and_congr Iff.rfl (exists_congr fun p => ?_)
  constructor
  · rintro ⟨h0, h1, h2⟩; exact ⟨h0, h1⟩
  · rintro ⟨h0, h1⟩; exact ⟨h0, h1, by omega⟩
/-- a place that is none -/
theorem Tch.skip (h : ∀ p, inB W H p = true → bl p.toNat = false → ¬ (p / W = ny ∧ p % W = nx)) : Tch W H bl x y ny (nx + 1) z ↔ Tch W H bl x y ny nx z := by
  unfold Tch
  refine and_congr Iff.rfl (exists_congr fun p => and_congr_right fun h0 => and_congr_right fun h1 => ?_)
  have := h p h0.1 h0.2.1
  omega
/-- the cell at the place -/
theorem Tch.cell {c : Int} (hx : nx = c % W) (hy : ny = c / W) (hc : inB W H c = true) (hf : bl c.toNat = false) (h1 : x - 1 ≤ nx) (h2 : nx ≤ x + 1) (h3 : y - 1 ≤ ny) (h4 : ny ≤ y + 1) :
    Tch W H bl x y ny (nx + 1) z ↔ Tch W H bl x y ny nx z ∨ (Dir W H bl c z ∧ cornB W H bl z = true) := by
  unfold Tch
  constructor
  · rintro ⟨hz, p, h5, h6, h7⟩
    by_cases e : p / W = ny ∧ p % W = nx
    · right
      have : p = c := by
        have e1 := cell_eq W p
        have e2 := cell_eq W c
        rw [← e1, ← e2, e.1, e.2, hx, hy]
      rw [this] at h5
      exact ⟨h5.2.2, hz⟩
    · exact Or.inl ⟨hz, p, h5, h6, by omega⟩
  · rintro (⟨hz, p, h5, h6, h7⟩ | ⟨hd, hz⟩)
    · exact ⟨hz, p, h5, h6, by omega⟩
    · exact ⟨hz, c, ⟨hc, hf, hd⟩, by omega, by omega⟩
end

set_option maxHeartbeats 4000000 in
set_option maxRecDepth 1000000 in
theorem touched_any {b tb : Nat} {W H V c x y : Int} {bl : Nat → Bool} {T : Int → Bool} (w : World) (g : GridAt w b W H V bl) (s : StepsAt w) (hb : b < w.heap.size) (hT : SetAt w tb T) (hbt : b ≠ tb) (h0 : 0 ≠ tb) (hc : inB W H c = true) (hx : c % W = x) (hy : c / W = y) :
    Calls Tryz.prog 28 #[.map (some tb), .pointer (some ⟨b, 0, none⟩), .int .i64 c] w fun e w' => e = .returned (.tuple #[]) ∧ (∃ T', SetAt w' tb T' ∧ ∀ z, T' z = true ↔ T z = true ∨ Tch W H bl x y (y + 1 + 1) (x - 1) z) ∧ Keep (fun k => k = tb) w w' := by
  have gw1 := g.w1
  have gw2 := g.w2
  have gh2 := g.h2
  have hwh := wh_bd g.w1 g.w2 g.h1 g.h2
  obtain ⟨x1, x2, y1, y2⟩ := place_bd g.w1 hc
  rw [hx] at x1 x2
  rw [hy] at y1 y2
  have hpl := fun w g => place_in (b := b) (V := V) (bl := bl) c w g hc
  rw [hx, hy] at hpl
  have B0 : Below w.heap.size w (w.alloc (.cells #[.pointer (some ⟨b, 0, none⟩)] 27)) := (Below.refl _ _).alloc (Nat.le_refl _) _
  have q0 : (w.alloc (.cells #[.pointer (some ⟨b, 0, none⟩)] 27)).cell? ⟨w.heap.size, 0, none⟩ = some (.pointer (some ⟨b, 0, none⟩)) := World.cell?_alloc_at #[.pointer (some ⟨b, 0, none⟩)] 27 w.heap.size 0 rfl
  have htl := hT.lt
  clear hx hy
  go_enter Tryz.func28, Tryz.ntmps28
  go_wp2_with fail
  refine (hpl _ (g.below B0 hb)).mono ?_
  rintro e w1 ⟨rfl, m1, hw1⟩
  have B1 : Below w.heap.size w w1 := by rw [hw1]; exact below_drewN B0 _
  have q1 : w1.cell? ⟨w.heap.size, 0, none⟩ = some (.pointer (some ⟨b, 0, none⟩)) := by rw [hw1]; exact q0
  clear hw1 hpl B0 q0
  have hT1 := hT.below B1
  have K1 : Keep (fun k => k = tb) w w1 := Keep.of_below B1
  clear B1 hT
  go_wp2
  go_loopw [9] (fun iv wr => ∃ (ny : Int) (T' : Int → Bool), iv = .int .i64 ny ∧ y - 1 ≤ ny ∧ ny ≤ y + 1 + 1 ∧ SetAt wr tb T' ∧ Hid (∀ z, T' z = true ↔ T z = true ∨ Tch W H bl x y ny (x - 1) z) ∧ wr.cell? ⟨w.heap.size, 0, none⟩ = some (.pointer (some ⟨b, 0, none⟩)) ∧ Keep (fun k => k = tb) w wr)
    (fun i _ => (y + 1 + 1 - intOf i).toNat)
  case atStart => exact ⟨y - 1, T, rfl, by omega, by omega, hT1, fun z => ⟨Or.inl, fun h => h.resolve_right Tch.none⟩, q1, K1⟩
  case round =>
    obtain ⟨ny, T1, rfl, n1, n2, hT1, hTi, q1, K1⟩ := hrel
    by_cases hlt : ny ≤ y + 1
    · go_wp2
      go_loopw [10] (fun iv wr => ∃ (nx : Int) (T' : Int → Bool), iv = .int .i64 nx ∧ x - 1 ≤ nx ∧ nx ≤ x + 1 + 1 ∧ SetAt wr tb T' ∧ Hid (∀ z, T' z = true ↔ T z = true ∨ Tch W H bl x y ny nx z) ∧ wr.cell? ⟨w.heap.size, 0, none⟩ = some (.pointer (some ⟨b, 0, none⟩)) ∧ Keep (fun k => k = tb) w wr)
        (fun i _ => (x + 1 + 1 - intOf i).toNat)
      case atStart => exact ⟨x - 1, T1, rfl, by omega, by omega, hT1, hTi, q1, K1⟩
      case round =>
        obtain ⟨nx, T2, rfl, m1, m2, hT2, hT2i, q2, K2⟩ := hrel
        by_cases hlx : nx ≤ x + 1
        · have g2 := g.keep K2 hbt
          have s2 := s.keep K2 h0
          have hz2 := K2.size
          cases hat : atB W H nx ny with
          | false =>
            have hce := cell_out nx ny wr g2 hat
            have HS : Hid (∀ z, T2 z = true ↔ T z = true ∨ Tch W H bl x y ny (nx + 1) z) := fun z => (hT2i.out z).trans (or_congr Iff.rfl (Tch.skip (fun p hp _ he => by
              obtain ⟨a1, a2, a3, a4⟩ := place_bd gw1 hp
              have : atB W H nx ny = true := decide_eq_true (by omega)
              rw [hat] at this; cases this)).symm)
            clear hat
            go_wp2_with fail
            refine hce.mono ?_
            rintro e w3 ⟨rfl, rfl⟩
            clear hce
            go_wp2
            go_roundw
            case rel => exact ⟨nx + 1, T2, by go_num, by omega, by omega, hT2, HS, q2, K2⟩
            case measure => simp [intOf]; omega
          | true =>
            have hce := cell_in nx ny wr g2 hat
            obtain ⟨a1, a2, a3, a4⟩ : 0 ≤ nx ∧ nx < W ∧ 0 ≤ ny ∧ ny < H := of_decide_eq_true hat
            have hm0 : 0 ≤ ny * W := Int.mul_nonneg a3 (by omega)
            have hpx : nx = (ny * W + nx) % W := by rw [Int.add_comm, Int.add_mul_emod_self_right]; exact (Int.emod_eq_of_lt a1 a2).symm
            have hpy : ny = (ny * W + nx) / W := by rw [Int.add_comm, Int.add_mul_ediv_right _ _ (by omega), Int.ediv_eq_zero_of_lt a1 a2]; omega
            have hpin : inB W H (ny * W + nx) = true := by
              have h2 : ny * W + W ≤ H * W := by
                have := Int.mul_le_mul_of_nonneg_right (show ny + 1 ≤ H by omega) (show 0 ≤ W by omega)
                rw [Int.add_mul] at this
                omega
              have h3 : H * W = W * H := Int.mul_comm H W
              exact decide_eq_true ⟨by omega, by omega⟩
            have hfree : bl (ny * W + nx).toNat = false ∨ bl (ny * W + nx).toNat = true := by cases bl (ny * W + nx).toNat <;> simp
            have HPX : Hid (nx = (ny * W + nx) % W) := hpx
            have HPY : Hid (ny = (ny * W + nx) / W) := hpy
            have hpb : 0 ≤ ny * W + nx ∧ ny * W + nx < W * H := of_decide_eq_true hpin
            clear hat hpx hpy hm0
            generalize ny * W + nx = p at *
            have hw2 : b < wr.heap.size := Nat.lt_of_lt_of_le hb hz2
            go_wp2_with fail
            refine hce.mono ?_
            rintro e w3 ⟨rfl, rfl⟩
            clear hce
            rcases hfree with hfree | hfree
            · have hfind := find_touch (rb := w.heap.size) (p := fun n => cornB W H bl n) w3 g2 s2 hw2 hpin hfree (fun w' n hB' hn => by
                have kk : ∀ {a : Addr} {v : Value}, w3.cell? a = some v → w'.cell? a = some v := fun {a v} h => (hB'.cell (World.block_lt_of_cell? w3 a h)).trans h
                exact clo_touch w' n (kk q2) (g2.below hB' hw2) (s2.below hB' (by omega)) hn)
              go_wp2_with fail
              refine hfind.mono ?_
              rintro e w4 ⟨v, l, rfl, hown, ⟨hrise, hmem⟩, hb4⟩
              have HM : Hid (∀ n : Nat, n ∈ l ↔ Dir W H bl p n ∧ cornB W H bl n = true) := hmem
              have hin : ∀ n ∈ l, n < 256 := fun n hn => by
                have h2 : 0 ≤ (n : Int) ∧ (n : Int) < W * H := of_decide_eq_true (cornC_in gw1 (cornB_iff.1 ((hmem n).1 hn).2))
                omega
              have hLL : l.length ≤ 256 := nodup_len 256 (hrise.imp (fun h e => by omega)) hin
              have HIN : Hid (∀ n ∈ l, n < 256) := hin
              have HS : Hid (∀ T4 : Int → Bool, (∀ z, T4 z = true ↔ T2 z = true ∨ ∃ i, i < l.length ∧ z = ((l.getD i 0 : Nat) : Int)) → ∀ z, T4 z = true ↔ T z = true ∨ Tch W H bl x y ny (nx + 1) z) := fun T4 h4 z => by
                rw [h4 z, hT2i.out z, Tch.cell HPX.out HPY.out hpin hfree m1 hlx n1 hlt, or_assoc]
                refine or_congr Iff.rfl (or_congr Iff.rfl ?_)
                constructor
                · rintro ⟨i, hi, rfl⟩
                  exact (HM.out _).1 (by rw [getD_at _ _ hi]; exact List.getElem_mem hi)
                · rintro ⟨hd, hz⟩
                  have hzi : 0 ≤ z ∧ z < W * H := of_decide_eq_true (cornC_in gw1 (cornB_iff.1 hz))
                  have hm : z.toNat ∈ l := (HM.out z.toNat).2 (by rw [Int.toNat_of_nonneg hzi.1]; exact ⟨hd, hz⟩)
                  obtain ⟨i, hi, h⟩ := List.getElem_of_mem hm
                  exact ⟨i, hi, by rw [getD_at _ _ hi, h]; omega⟩
              obtain ⟨A, cap, rfl⟩ : ∃ A cap, v = .slice A l.length cap := by
                rcases hown.2 with ⟨rfl, h0⟩ | ⟨g', cap, cur, rfl, _⟩
                · exact ⟨none, 0, by rw [h0]⟩
                · exact ⟨_, _, rfl⟩
              have hT4 := hT2.below hb4
              have q4 := (hb4.cell (World.block_lt_of_cell? _ _ q2)).trans q2
              have K4 := K2.below hb4
              clear hfind hmem hrise hin hb4 g2 s2
              go_wp2
              go_loopw [52] (fun iv wr => ∃ (j : Nat) (T4 : Int → Bool), j ≤ l.length ∧ iv = .int .i64 j ∧ SetAt wr tb T4 ∧ Hid (∀ z, T4 z = true ↔ T2 z = true ∨ ∃ i, i < j ∧ z = ((l.getD i 0 : Nat) : Int)) ∧ wr.ownsRow w3.heap.size 53 4 (.slice A l.length cap) l.length (edgesV W p l) ∧ wr.cell? ⟨w.heap.size, 0, none⟩ = some (.pointer (some ⟨b, 0, none⟩)) ∧ Keep (fun k => k = tb) w wr)
                (fun i _ => l.length - (intOf i).toNat)
              case atStart => exact ⟨0, T2, Nat.zero_le _, rfl, hT4, fun z => ⟨Or.inl, fun h => h.resolve_right (fun ⟨i, hi, _⟩ => by omega)⟩, hown, q4, K4⟩
              case round =>
                obtain ⟨j, T4, hj, rfl, hT4, hT4i, hrow, q4, K4⟩ := hrel
                by_cases hlj : j < l.length
                · obtain ⟨ba, hA⟩ : ∃ ba, A = some ⟨ba, 0, none⟩ := by
                    rcases hrow.2 with ⟨_, h0⟩ | ⟨ba, _, _, hv, _⟩
                    · omega
                    · exact ⟨ba, by cases hv; rfl⟩
                  subst hA
                  obtain ⟨e0, e1, e2, e3⟩ := edgesV_at W p l j hlj
                  have hnm : l.getD j 0 ∈ l := by rw [getD_at _ _ hlj]; exact List.getElem_mem hlj
                  have hn2 := HIN.out _ hnm
                  have c0 : wr.cell? ⟨ba, j * 4, none⟩ = some (.int .i64 ((l.getD j 0 : Nat) : Int)) := (hrow.cellAt (j * 4) (by omega)).trans e0
                  have c1 : wr.cell? ⟨ba, j * 4 + 1, none⟩ = _ := (hrow.cellAt (j * 4 + 1) (by omega)).trans e1
                  have c2 : wr.cell? ⟨ba, j * 4 + 2, none⟩ = _ := (hrow.cellAt (j * 4 + 2) (by omega)).trans e2
                  have c3 : wr.cell? ⟨ba, j * 4 + 3, none⟩ = _ := (hrow.cellAt (j * 4 + 3) (by omega)).trans e3
                  have HJ : Hid (∀ z : Int, (∃ i, i < j + 1 ∧ z = ((l.getD i 0 : Nat) : Int)) ↔ (∃ i, i < j ∧ z = ((l.getD i 0 : Nat) : Int)) ∨ z = ((l.getD j 0 : Nat) : Int)) := fun z => by
                    constructor
                    · rintro ⟨i, hi, h⟩
                      by_cases e : i = j
                      · subst e; exact Or.inr h
                      · exact Or.inl ⟨i, by omega, h⟩
                    · rintro (⟨i, hi, h⟩ | h)
                      · exact ⟨i, by omega, h⟩
                      · exact ⟨j, by omega, h⟩
                  clear e0 e1 e2 e3 hnm
                  generalize octS W p ((l.getD j 0 : Nat) : Int) = es at *
                  generalize octD W p ((l.getD j 0 : Nat) : Int) = ed at *
                  have z0 : (0 : Int) ≤ ((l.getD j 0 : Nat) : Int) := by omega
                  have z1 : ((l.getD j 0 : Nat) : Int) < 256 := by omega
                  generalize ((l.getD j 0 : Nat) : Int) = zz at *
                  have i1 : (0 : Int) ≤ (j : Int) := by omega
                  have i2 : (j : Int) < (l.length : Int) := by omega
                  have hT5 := hT4.grown (World.grownBy_alloc wr (.cells #[.int .i64 zz, .int .i64 es, .int .i64 ed, .int .i64 (-1)] 53) none) (by simp)
                  go_wp2_with (first | (at_mapUpdate; refine wpList_put rfl _ _ _ 73 rfl 3 109 law3 Tryz.underT tb _ _ rfl hT5.mp hT5.room zz (.agg #[]) rfl rfl (wf_small z0 z1) ?_; intro w5 hm5 ht5; go_frame) | go_in)
                  have hT6 := hT5.put z0 z1 hm5
                  have hg5 := ht5.grown
                  have K6 : Keep (fun k => k = tb) w w5 := (K4.alloc _).grown hg5 (fun k e h => by cases e; rfl)
                  have R6 := own_grown (hrow.alloc _) hg5 (fun g' hg' e => own_map hrow hT4.mp g' hg' (Option.some.inj e))
                  have q6 : w5.cell? ⟨w.heap.size, 0, none⟩ = some (.pointer (some ⟨b, 0, none⟩)) := (turned_keep ht5).cellOf ((World.cell?_alloc_old _ _ _ (Nat.ne_of_lt (World.block_lt_of_cell? _ _ q4))).trans q4) (show w.heap.size ≠ tb by omega)
                  clear hm5 ht5 hg5 hT5 hT4 hrow K4 c0 c1 c2 c3
                  go_roundw
                  case rel =>
                    refine ⟨j + 1, _, by omega, by go_num, hT6, fun z => ?_, R6, q6, K6⟩
                    rw [insS_iff, hT4i.out z, HJ.out z]
                    exact ⟨fun h => h.elim (fun e => Or.inr (Or.inr e)) (fun h => h.imp id Or.inl), fun h => h.elim (fun e => Or.inr (Or.inl e)) (fun h => h.elim (fun e => Or.inr (Or.inr e)) Or.inl)⟩
                  case measure => simp [intOf]; omega
                · have e : j = l.length := by omega
                  subst e
                  have HS2 := HS.out T4 hT4i.out
                  go_wp2
                  go_roundw
                  case rel => exact ⟨nx + 1, T4, by go_num, by omega, by omega, hT4, HS2, q4, K4⟩
                  case measure => simp [intOf]; omega
            · have hff : ffv W H bl p ≠ 0 := by unfold ffv; rw [hpin, hfree]; decide
              have hfind := find_touch_err (rb := w.heap.size) w3 g2 hff
              have HS : Hid (∀ z, T2 z = true ↔ T z = true ∨ Tch W H bl x y ny (nx + 1) z) := fun z => (hT2i.out z).trans (or_congr Iff.rfl (Tch.skip (fun q hq hqf he => by
                have e1 := cell_eq W q
                have e2 := cell_eq W p
                have : q = p := by rw [← e1, ← e2, he.1, he.2, ← HPX.out, ← HPY.out]
                rw [this, hfree] at hqf; cases hqf)).symm)
              go_wp2_with fail
              refine hfind.mono ?_
              rintro e w4 ⟨rfl, hb4⟩
              have hT4 := hT2.below hb4
              have q4 := (hb4.cell (World.block_lt_of_cell? _ _ q2)).trans q2
              have K4 := K2.below hb4
              clear hfind g2 s2 hb4
              go_wp2
              go_loopw [52] (fun iv wr => iv = .int .i64 0 ∧ SetAt wr tb T2 ∧ wr.cell? ⟨w.heap.size, 0, none⟩ = some (.pointer (some ⟨b, 0, none⟩)) ∧ Keep (fun k => k = tb) w wr) (fun _ _ => 0)
              case atStart => exact ⟨rfl, hT4, q4, K4⟩
              case round =>
                obtain ⟨rfl, hT4, q4, K4⟩ := hrel
                go_wp2
                go_roundw
                case rel => exact ⟨nx + 1, T2, by go_num, by omega, by omega, hT4, HS, q4, K4⟩
                case measure => simp [intOf]; omega
        · have e : nx = x + 1 + 1 := by omega
          subst e
          go_wp2
          go_roundw
          case rel => exact ⟨ny + 1, T2, by go_num, by omega, by omega, hT2, fun z => (hT2i.out z).trans (or_congr Iff.rfl Tch.row), q2, K2⟩
          case measure => simp [intOf]; omega
    · have e : ny = y + 1 + 1 := by omega
      subst e
      go_wp2
      go_end0
      exact ⟨rfl, ⟨T1, hT1, hTi.out⟩, K1⟩
end Go.Proofs.YtcagpmglijockaaGreatDoor
/-
  Two lists of edges that lie alike: the reference's 'SameEdges'.
-/
namespace Go.Proofs.YtcagpmglijockaaGreatDoor
open Go.RowKit

/-- edges in memory that was there -/
def OldEdges (w : World) (A : Option Addr) (W a : Int) (l : List Nat) : Prop := ∀ i, i < l.length → ∃ b, A = some ⟨b, 0, none⟩ ∧ b < w.heap.size ∧ w.cell? ⟨b, i * 4, none⟩ = some (.int .i64 ((l.getD i 0 : Nat) : Int)) ∧ w.cell? ⟨b, i * 4 + 1, none⟩ = some (.int .i64 (octS W a ((l.getD i 0 : Nat) : Int))) ∧ w.cell? ⟨b, i * 4 + 2, none⟩ = some (.int .i64 (octD W a ((l.getD i 0 : Nat) : Int))) ∧ w.cell? ⟨b, i * 4 + 3, none⟩ = some (.int .i64 (-1))
theorem OldEdges.below {w w' : World} {A : Option Addr} {W a : Int} {l : List Nat} (h : OldEdges w A W a l) (hb : Below w.heap.size w w') : OldEdges w' A W a l := fun i hi => by
  obtain ⟨b, e, h0, h1, h2, h3, h4⟩ := h i hi
  exact ⟨b, e, Nat.lt_of_lt_of_le h0 hb.size, (hb.cell (p := ⟨b, i * 4, none⟩) h0).trans h1, (hb.cell (p := ⟨b, i * 4 + 1, none⟩) h0).trans h2, (hb.cell (p := ⟨b, i * 4 + 2, none⟩) h0).trans h3, (hb.cell (p := ⟨b, i * 4 + 3, none⟩) h0).trans h4⟩
theorem rowE_of {w : World} {base : Nat} {v : Value} {W a : Int} {l : List Nat} (h : w.ownsRow base 53 4 v l.length (edgesV W a l)) : ∃ A cap, v = .slice A l.length cap ∧ OldEdges w A W a l := by
  rcases h.2 with ⟨rfl, h0⟩ | ⟨g, cap, cur, rfl, _, hg, _⟩
  · exact ⟨none, 0, by rw [h0], fun i hi => by omega⟩
  · refine ⟨_, _, rfl, fun i hi => ?_⟩
    obtain ⟨e0, e1, e2, e3⟩ := edgesV_at W a l i hi
    exact ⟨g, rfl, (Array.getElem?_eq_some_iff.1 hg).1, (h.cellAt _ (by omega)).trans e0, (h.cellAt _ (by omega)).trans e1, (h.cellAt _ (by omega)).trans e2, (h.cellAt _ (by omega)).trans e3⟩

set_option maxHeartbeats 2000000 in
set_option maxRecDepth 1000000 in
theorem sameE_any {A B : Option Addr} {ca cb : Nat} {W a : Int} {l : List Nat} (w : World) (hA : OldEdges w A W a l) (hB : OldEdges w B W a l) (hl : l.length ≤ 1000) :
    Calls Tryz.prog 24 #[.slice A l.length ca, .slice B l.length cb] w fun e w' => e = .returned (.bool true) ∧ ∃ m, w' = w.drewN m := by
  go_enter Tryz.func24, Tryz.ntmps24
  go_wp2
  go_loopw [5] (fun iv wr => ∃ k : Nat, k ≤ l.length ∧ iv = .int .i64 k ∧ ∃ m, wr = w.drewN m) (fun i _ => l.length - (intOf i).toNat)
  case atStart => exact ⟨0, Nat.zero_le _, rfl, 0, rfl⟩
  case round =>
    obtain ⟨k, hk, rfl, m, rfl⟩ := hrel
    by_cases hlt : k < l.length
    · obtain ⟨ba, rfl, a0, a1, a2, a3, a4⟩ := hA k hlt
      obtain ⟨bb, rfl, b0, b1, b2, b3, b4⟩ := hB k hlt
      have i1 : (0 : Int) ≤ (k : Int) := by omega
      have i2 : (k : Int) < (l.length : Int) := by omega
      generalize octS W a ((l.getD k 0 : Nat) : Int) = es at *
      generalize octD W a ((l.getD k 0 : Nat) : Int) = ed at *
      generalize ((l.getD k 0 : Nat) : Int) = zz at *
      have a1 : (w.drewN m).cell? ⟨ba, k * 4, none⟩ = some (.int .i64 zz) := a1
      have a2 : (w.drewN m).cell? ⟨ba, k * 4 + 1, none⟩ = some (.int .i64 es) := a2
      have a3 : (w.drewN m).cell? ⟨ba, k * 4 + 2, none⟩ = some (.int .i64 ed) := a3
      have a4 : (w.drewN m).cell? ⟨ba, k * 4 + 3, none⟩ = some (.int .i64 (-1)) := a4
      have b1 : (w.drewN m).cell? ⟨bb, k * 4, none⟩ = some (.int .i64 zz) := b1
      have b2 : (w.drewN m).cell? ⟨bb, k * 4 + 1, none⟩ = some (.int .i64 es) := b2
      have b3 : (w.drewN m).cell? ⟨bb, k * 4 + 2, none⟩ = some (.int .i64 ed) := b3
      have b4 : (w.drewN m).cell? ⟨bb, k * 4 + 3, none⟩ = some (.int .i64 (-1)) := b4
      have hE : Hid (∃ m', (w.drewN m) = w.drewN m') := ⟨m, rfl⟩
      generalize w.drewN m = w1 at *
      go_wp2
      go_quiet (fail)
      go_wp2
      go_roundw
      case rel =>
        obtain ⟨m', hm'⟩ := hE.out
        exact ⟨k + 1, by omega, by go_num, _, by rw [hm', World.drewN_drewN]⟩
      case measure => simp [intOf]; omega
    · have e : k = l.length := by omega
      subst e
      go_wp2
      go_ret
      exact ⟨rfl, m, rfl⟩
end Go.Proofs.YtcagpmglijockaaGreatDoor
/-
  The reference's edges: each ray held against another.
-/
namespace Go.Proofs.YtcagpmglijockaaGreatDoor
open Go.RowKit

theorem range_new (w : World) (l : List Value) (t : TypeId) : (w.alloc (.cells l.toArray t)).rangeAt w.heap.size 0 l := fun j v hj => by
  rw [Nat.zero_add, World.cell?_alloc_new, List.getElem?_toArray]
  exact hj
theorem range_below {w w' : World} {b o : Nat} {l : List Value} (h : w.rangeAt b o l) (hb : Below w.heap.size w w') : w'.rangeAt b o l := fun j v hj => by
  have := h j v hj
  exact (hb.cell (World.block_lt_of_cell? w _ this)).trans this
theorem ray_new (a : Nat) (F : Int → Option (Int × Int)) (w : World) : RayAt (w.alloc (.cells (rayL a F).toArray 92)) w.heap.size a F := rayAt_range (range_new w _ 92)

/-- by two rays: directly near -/
theorem direct_d {M cap : Nat} {A : Option Addr} {W H V : Int} {bl : Nat → Bool} {a b : Nat} {F G : Int → Option (Int × Int)} {RA RB : List Value} {L : List Nat} (w : World) (g : RefAt w M W H V bl) (hml : M < w.heap.size)
    (hA : ∀ w : World, RayAt (w.alloc (.cells RA.toArray 92)) w.heap.size a F) (hB : ∀ w : World, RayAt (w.alloc (.cells RB.toArray 92)) w.heap.size b G) (BF : Best (Edge W H bl) a F) (BG : Best (Edge W H bl) b G)
    (ha : inB W H a = true) (hb : inB W H b = true) (hL : crs W H bl (W * H).toNat = L) (hrow : OldRow w A L.length (fun i => (L.getD i 0 : Nat))) :
    Calls Tryz.prog 66 #[.pointer (some ⟨M, 0, none⟩), .agg RA.toArray, .agg RB.toArray, .slice A L.length cap] w fun e w' => ∃ r, e = .returned (.bool r) ∧ (r = true ↔ Dir W H bl a b) ∧ Below w.heap.size w w' := by
  have gw1 := g.w1
  have hwh := wh_bd g.w1 g.w2 g.h1 g.h2
  have hsm := oct_small g.w1 g.w2 g.h1 g.h2 ha hb
  have hbq : 0 ≤ (b : Int) ∧ (b : Int) < W * H := of_decide_eq_true hb
  have hLL : L.length ≤ 256 := by rw [← hL]; have := crs_len W H bl (W * H).toNat; omega
  have hmm : ∀ j, j < L.length → L.getD j 0 < (W * H).toNat ∧ cornB W H bl ((L.getD j 0 : Nat) : Int) = true := fun j hj => crs_mem.1 (by rw [hL, getD_at _ _ hj]; exact List.getElem_mem hj)
  refine (direct' (cap := cap) (A := A) (l := L) w g hml hA hB (fun w' g' => roct_any (a : Int) b w' g' ha hb) (lab_ok BF) (lab_ok BG) (by omega) rfl hLL (fun j hj => by have := (hmm j hj).1; omega) hrow).mono ?_
  rintro e w' ⟨r, rfl, hr, hbw⟩
  refine ⟨r, rfl, hr.trans ?_, hbw⟩
  have hni := near_iff (b := (b : Int)) gw1 (by omega) (by omega) BF
  have hon := on_iff (a := (a : Int)) (b := (b : Int)) gw1 (by omega) (by omega) BF BG
  unfold Dir
  rw [hni]
  refine and_congr_right fun _ => ?_
  constructor
  · intro h k hk hc
    have hkin : 0 ≤ k ∧ k < W * H := of_decide_eq_true (cornC_in gw1 hc)
    have hm : k.toNat ∈ L := by rw [← hL]; exact crs_mem.2 ⟨by omega, by rw [Int.toNat_of_nonneg hkin.1]; exact cornB_iff.2 hc⟩
    obtain ⟨j, hj, e⟩ := List.getElem_of_mem hm
    by_cases e1 : k = (a : Int)
    · exact Or.inl e1
    · by_cases e2 : k = (b : Int)
      · exact Or.inr e2
      · exfalso
        have := h j hj (by rw [getD_at _ _ hj, e]; omega) (by rw [getD_at _ _ hj, e]; omega)
        rw [getD_at _ _ hj, e, Int.toNat_of_nonneg hkin.1] at this
        exact this ((hon k).1 hk)
  · intro h j hj h1 h2 h3
    rcases h _ ((hon _).2 h3) (cornB_iff.1 (hmm j hj).2) with e | e <;> omega

/-- rays, one behind the other -/
theorem flat_at (R : Nat → List Value) (hR : ∀ n, (R n).length = 769) : ∀ (L : List Nat) (i j : Nat), i < L.length → j < 769 → (L.flatMap R)[i * 769 + j]? = (R (L.getD i 0))[j]?
  | [], i, _, h, _ => absurd h (Nat.not_lt_zero i)
  | n :: L, 0, j, _, hj => by
    rw [List.flatMap_cons, List.getElem?_append_left (by rw [hR]; omega), Nat.zero_mul, Nat.zero_add]
    rfl
  | n :: L, i + 1, j, h, hj => by
    have ih := flat_at R hR L i j (by simpa using h) hj
    rw [List.flatMap_cons, List.getElem?_append_right (by rw [hR]; omega), hR, show (i + 1) * 769 + j - 769 = i * 769 + j by omega, ih]
    rfl
theorem flat_len (R : Nat → List Value) (hR : ∀ n, (R n).length = 769) (L : List Nat) : (L.flatMap R).length = L.length * 769 := by
  induction L with
  | nil => rfl
  | cons n L ih => rw [List.flatMap_cons, List.length_append, ih, hR, List.length_cons]; omega
/-- rays in memory that was there -/
def OldRays (w : World) (A : Option Addr) (R : Nat → List Value) (L : List Nat) : Prop := ∀ i, i < L.length → ∃ b, A = some ⟨b, 0, none⟩ ∧ b < w.heap.size ∧ w.rangeAt b (i * 769) (R (L.getD i 0))
theorem OldRays.below {w w' : World} {A : Option Addr} {R : Nat → List Value} {L : List Nat} (h : OldRays w A R L) (hb : Below w.heap.size w w') : OldRays w' A R L := fun i hi => by
  obtain ⟨b, e, h1, h2⟩ := h i hi
  exact ⟨b, e, Nat.lt_of_lt_of_le h1 hb.size, range_below h2 hb⟩
theorem rays_of {w : World} {base : Nat} {v : Value} {R : Nat → List Value} {L : List Nat} (hR : ∀ n, (R n).length = 769) (h : w.ownsRow base 92 769 v L.length (L.flatMap R)) : ∃ A cap, v = .slice A L.length cap ∧ OldRays w A R L := by
  rcases h.2 with ⟨rfl, h0⟩ | ⟨g, cap, cur, rfl, _, hg, _⟩
  · exact ⟨none, 0, by rw [h0], fun i hi => by omega⟩
  · refine ⟨_, _, rfl, fun i hi => ⟨g, rfl, (Array.getElem?_eq_some_iff.1 hg).1, fun j v hj => ?_⟩⟩
    have hj' : j < 769 := by have := (List.getElem?_eq_some_iff.1 hj).1; rw [hR] at this; exact this
    rw [h.cellAt _ (by omega), flat_at R hR L i j hi hj']
    exact hj

/-- two rays in memory -/
def TwoR (w : World) (X Y : Nat) (RA RB : List Value) (o : Nat) : Prop := w.rangeAt X 0 RA ∧ w.rangeAt Y o RB
theorem TwoR.below {w w' : World} {X Y o : Nat} {RA RB : List Value} (h : TwoR w X Y RA RB o) (hb : Below w.heap.size w w') : TwoR w' X Y RA RB o := ⟨range_below h.1 hb, range_below h.2 hb⟩

/-- which edges there are -/
def EdgeP (W H : Int) (bl : Nat → Bool) (self : Bool) (a : Nat) (n : Nat) : Prop := (self = true ∨ n ≠ a) ∧ Dir W H bl a n
def Upto (L : List Nat) (P : Nat → Prop) (i : Nat) (F : List Nat) : Prop := F.Pairwise (· < ·) ∧ ∀ n, n ∈ F ↔ ∃ j, j < i ∧ L.getD j 0 = n ∧ P n
theorem Upto.no {L F : List Nat} {P : Nat → Prop} {i : Nat} (h : Upto L P i F) (hn : ¬ P (L.getD i 0)) : Upto L P (i + 1) F := by
  refine ⟨h.1, fun n => (h.2 n).trans ⟨fun ⟨j, h1, h2⟩ => ⟨j, by omega, h2⟩, fun ⟨j, h1, h2, h3⟩ => ?_⟩⟩
  by_cases e : j = i
  · subst e; rw [h2] at hn; exact absurd h3 hn
  · exact ⟨j, by omega, h2, h3⟩
theorem rise_at {L : List Nat} (h : L.Pairwise (· < ·)) {i j : Nat} (hi : i < L.length) (hj : j < i) : L.getD j 0 < L.getD i 0 := by
  rw [getD_at _ _ hi, getD_at _ _ (by omega)]
  exact List.pairwise_iff_getElem.1 h j i (by omega) hi hj
theorem Upto.yes {L F : List Nat} {P : Nat → Prop} {i : Nat} (hL : L.Pairwise (· < ·)) (hi : i < L.length) (h : Upto L P i F) (hp : P (L.getD i 0)) : Upto L P (i + 1) (F ++ [L.getD i 0]) := by
  refine ⟨?_, fun n => ?_⟩
  · rw [List.pairwise_append]
    refine ⟨h.1, List.pairwise_singleton _ _, fun x hx y hy => ?_⟩
    rw [List.mem_singleton] at hy
    obtain ⟨j, h1, h2, _⟩ := (h.2 x).1 hx
    rw [hy, ← h2]
    exact rise_at hL hi h1
  · rw [List.mem_append, List.mem_singleton, h.2 n]
    constructor
    · rintro (⟨j, h1, h2⟩ | rfl)
      · exact ⟨j, by omega, h2⟩
      · exact ⟨i, by omega, rfl, hp⟩
    · rintro ⟨j, h1, h2, h3⟩
      by_cases e : j = i
      · subst e; exact Or.inr h2.symm
      · exact Or.inl ⟨j, by omega, h2, h3⟩

set_option maxHeartbeats 8000000 in
set_option maxRecDepth 1000000 in
theorem redges' {M cr cc a : Nat} {AR AC : Option Addr} {W H V : Int} {bl : Nat → Bool} {F : Int → Option (Int × Int)} {RA : List Value} {R : Nat → List Value} {Fl : Int → Int → Option (Int × Int)} {L : List Nat} {self : Bool} (w : World) (g : RefAt w M W H V bl) (hml : M < w.heap.size)
    (hA : ∀ w : World, RayAt (w.alloc (.cells RA.toArray 92)) w.heap.size a F) (hAr : ∀ w : World, (w.alloc (.cells RA.toArray 92)).rangeAt w.heap.size 0 RA) (lA : RA.length = 769) (BF : Best (Edge W H bl) a F) (ha : inB W H a = true)
    (hR : ∀ n, (R n).length = 769) (hRn : ∀ (n : Nat) (w : World), RayAt (w.alloc (.cells (R n).toArray 92)) w.heap.size n (Fl n)) (hB : ∀ c, CornC W H bl c → Best (Edge W H bl) c (Fl c))
    (hL : crs W H bl (W * H).toNat = L) (hrays : OldRays w AR R L) (hrow : OldRow w AC L.length (fun i => (L.getD i 0 : Nat))) :
    Calls Tryz.prog 41 #[.pointer (some ⟨M, 0, none⟩), .agg RA.toArray, .slice AR L.length cr, .slice AC L.length cc, .bool self] w fun e w' => ∃ v l, e = .returned v ∧ w'.ownsRow w.heap.size 53 4 v l.length (edgesV W a l) ∧ Upto L (EdgeP W H bl self a) L.length l ∧ Below w.heap.size w w' := by
  have gw1 := g.w1
  have hwh := wh_bd g.w1 g.w2 g.h1 g.h2
  obtain ⟨i0, hi, hz0, hz1, hz2⟩ := info_parts Tryz.infoE
  have hLL : L.length ≤ 256 := by rw [← hL]; have := crs_len W H bl (W * H).toNat; omega
  have HC : Hid (∀ i, i < L.length → L.getD i 0 < 256 ∧ cornB W H bl ((L.getD i 0 : Nat) : Int) = true) := fun i hi => by
    have := crs_mem.1 (show L.getD i 0 ∈ crs W H bl (W * H).toNat by rw [hL, getD_at _ _ hi]; exact List.getElem_mem hi)
    exact ⟨by omega, this.2⟩
  have HRi : Hid (L.Pairwise (· < ·)) := by rw [← hL]; exact crs_rise _ _ _ _
  have b0 : Below w.heap.size w (w.alloc (.cells RA.toArray 92)) := (Below.refl _ _).alloc (Nat.le_refl _) _
  have x0 := (hA w).a0
  have xr := hAr w
  have g0 := g.below b0 hml
  have hrays0 := hrays.below b0
  have hrow0 := hrow.below b0
  have hz0' : (w.alloc (.cells RA.toArray 92)).heap.size = w.heap.size + 1 := by simp
  have HL : Hid (crs W H bl (W * H).toNat = L) := hL
  clear g hrays hrow hL
  go_enter Tryz.func41, Tryz.ntmps41
  go_wp2
  generalize w.alloc (.cells RA.toArray 92) = w0 at *
  generalize hX : w.heap.size = X at *
  have HX : Hid (w.heap.size = X) := hX
  clear hX
  go_loopg [11, 12] L.length (fun gk lv iv wr => ∃ (i : Nat) (Fi : List Nat), gk = L.length - i ∧ iv = .int .i64 i ∧ i ≤ L.length ∧ Hid (Upto L (EdgeP W H bl self a) i Fi) ∧ wr.ownsRow w0.heap.size 53 4 lv Fi.length (edgesV W a Fi) ∧ Below w0.heap.size w0 wr)
  case atStart => exact ⟨0, [], rfl, rfl, Nat.zero_le _, ⟨List.Pairwise.nil, fun n => ⟨fun h => (by cases h), fun ⟨j, h, _⟩ => absurd h (Nat.not_lt_zero j)⟩⟩, World.ownsRow_nil _ _ _ _, Below.refl _ _⟩
  case round =>
    obtain ⟨i, Fi, hgk, rfl, hi', hup, hown, Br⟩ := hrel
    by_cases hlt : i < L.length
    · obtain ⟨ba, oa, rfl, hba, hcell0⟩ := hrow0 i hlt
      obtain ⟨bb, rfl, hbb, hray⟩ := (hrays0.below Br) i hlt
      obtain ⟨z, hzz⟩ : ∃ z, L.getD i 0 = z := ⟨_, rfl⟩
      have hc := HC.out i hlt
      have hyes := fun h => Upto.yes HRi.out hlt hup.out h
      have hno := fun h => Upto.no (P := EdgeP W H bl self a) hup.out h
      have hcell1 : w0.cell? ⟨ba, oa + i, none⟩ = some (.int .i64 (z : Int)) := by rw [← hzz]; exact hcell0
      have HS : Hid (∀ w', Below w0.heap.size w0 w' → w'.cell? ⟨X, 0, none⟩ = some (.int .i64 (a : Int)) ∧ w'.cell? ⟨ba, oa + i, none⟩ = some (.int .i64 (z : Int))) := fun w' B => ⟨(B.cell (World.block_lt_of_cell? _ _ x0)).trans x0, (B.cell (World.block_lt_of_cell? _ _ hcell1)).trans hcell1⟩
      have hcell := (HS.out _ Br).2
      rw [hzz] at hc hyes hno hray
      obtain ⟨hz256, hzc⟩ := hc
      have hzin := cornC_in gw1 (cornB_iff.1 hzc)
      have xa := (HS.out _ Br).1
      have xq := range_below xr Br
      have gr := g0.below Br (by omega)
      have hmr : M < wr.heap.size := by have := Br.size; omega
      have hrowr := hrow0.below Br
      have hoc := fun (w' : World) (g' : RefAt w' M W H V bl) => roct_any (a : Int) z w' g' ha hzin
      have hdi := fun (w' : World) (g' : RefAt w' M W H V bl) (h : M < w'.heap.size) (hr : OldRow w' (some ⟨ba, oa, none⟩) L.length (fun i => (L.getD i 0 : Nat))) => direct_d (cap := cc) (a := a) (b := z) w' g' h hA (hRn z) BF (hB z (cornB_iff.1 hzc)) ha hzin HL.out hr
      have hEV : Hid (edgesV W a (Fi ++ [z]) = edgesV W a Fi ++ [.int .i64 (z : Int), .int .i64 (octS W a z), .int .i64 (octD W a z), .int .i64 (-1)]) := edgesV_app _ _ _ _
      have hFl : Fi.length ≤ 256 := by
        have h1 := nodup_len 256 (hup.out.1.imp (fun h e => by omega)) (fun n hn => by
          obtain ⟨j, hj, e, _⟩ := (hup.out.2 n).1 hn
          have := HC.out j (by omega)
          rw [e] at this; exact this.1)
        exact h1
      have HLen : Hid ((Fi ++ [z]).length = Fi.length + 1) := by show _ = _; simp
      have lB := hR z
      have H1 : Hid (self = false → z = a → Upto L (EdgeP W H bl self a) (i + 1) Fi) := fun h1 h2 => hno (fun h => h.1.elim (fun h => by rw [h1] at h; cases h) (fun h => h h2))
      have H2 : Hid (¬ Dir W H bl a z → Upto L (EdgeP W H bl self a) (i + 1) Fi) := fun h1 => hno (fun h => h1 h.2)
      have H3 : Hid ((self = true ∨ z ≠ a) → Dir W H bl a z → Upto L (EdgeP W H bl self a) (i + 1) (Fi ++ [z])) := fun h1 h2 => hyes ⟨h1, h2⟩
      have hiX : (Tryz.prog.info? 92).map (·.size) = some RA.length := by rw [info112, lA]
      have hiY : (Tryz.prog.info? 92).map (·.size) = some (R z).length := by rw [info112, lB]
      have i1 : (0 : Int) ≤ (i : Int) := by omega
      have i2 : (i : Int) < (L.length : Int) := by omega
      clear hyes hno hzz hup hcell0 hcell1 hA hRn hB hrow0 hrays0 xr x0 b0 lB hAr lA hR hz256
      generalize R z = RB at *
      generalize octS W a z = es at *
      generalize octD W a z = ed at *
      by_cases hcont : self = false ∧ z = a
      · have HN := H1.out hcont.1 hcont.2
        obtain ⟨rfl, rfl⟩ := hcont
        clear H1 H2 H3 hoc hdi
        go_wp2
        go_quiet (fail)
        go_wp2
        go_roundg (L.length - (i + 1))
        case measure => omega
        case rel => exact ⟨i + 1, Fi, rfl, by go_num, by omega, HN, hown, below_drewN Br _⟩
      · have hself : self = true ∨ z ≠ a := by
          by_cases e : z = a
          · exact Or.inl (by cases self with
              | true => rfl
              | false => exact absurd ⟨rfl, e⟩ hcont)
          · exact Or.inr e
        have H4 : Hid (Dir W H bl a z → Upto L (EdgeP W H bl self a) (i + 1) (Fi ++ [z])) := H3.out hself
        clear H1 H3 hcont
        obtain ⟨Fz, hFz⟩ : ∃ Fz, Fi ++ [z] = Fz := ⟨_, rfl⟩
        rw [hFz] at hEV HLen H4
        clear hFz
        obtain ⟨D, hD⟩ : ∃ D : Prop, Dir W H bl a z = D := ⟨_, rfl⟩
        rw [hD] at H2 H4
        rw [hD] at hdi
        clear hD hzc hzin
        by_cases hez : z = a
        · have hs : self = true := hself.elim id (fun h => absurd hez h)
          subst hs
          subst hez
          clear hself
          go_wp2
          go_quiet (fail)
          have bD : Below wr.heap.size wr (wr.drewN nq) := below_drewN (Below.refl _ _) _
          have Br := Br.trans (bD.mono Br.size)
          have xq := range_below xq bD
          have hray := range_below hray bD
          have gr := gr.below bD hmr
          have hmr := Nat.lt_of_lt_of_le hmr bD.size
          have hrowr := hrowr.below bD
          have hown := own_below hown bD
          clear bD hcell xa
          generalize wr.drewN nq = w1 at *
          have bD : Below w1.heap.size w1 w1.drew := ⟨rfl, rfl, rfl, Nat.le_refl _, fun _ _ => rfl⟩
          have CC : TwoR w1.drew X bb RA RB (i * 769) := ⟨range_below xq bD, range_below hray bD⟩
          have BD := Br.trans (bD.mono Br.size)
          have gD := gr.below bD hmr
          have mD := Nat.lt_of_lt_of_le hmr bD.size
          have rD := hrowr.below bD
          have oD := own_below hown bD
          have hu := Tryz.underlying92
          clear bD Br xq hray gr hmr hrowr hown
          go_wp2_with fail
          refine wp_region_held_drew (S := fun w' => w'.rangeAt X 0 RA ∧ w'.rangeAt bb (i * 769) RB) (by kernel_rfl) CC (fun hHeld => ?_)
          refine wpAnyH_take (i := 0) (v := .pointer (some ⟨M, 0, none⟩)) rfl (by kernel_rfl) (by kernel_rfl) (by kernel_rfl) (fun _ _ _ h => h) (Or.inl ⟨by rfl, fun w' _ => by go_simp⟩) hHeld ?_
          simp only [Act.put, List.setIfInBounds_toArray]
          refine wpAnyH_take (i := 1) (v := .agg RA.toArray) rfl (by kernel_rfl) (by kernel_rfl) (by kernel_rfl) (fun _ _ _ h => h) (yieldsIf_load_mid (by rfl) 92 (.tmp 6) rfl X 0 rfl RA _ (fun _ h => h.1) hu rfl hiX) hHeld ?_
          simp only [Act.put]
          refine wpAnyH_take (i := 2) (v := .slice (some ⟨bb, 0, none⟩) L.length cr) rfl (by kernel_rfl) (by kernel_rfl) (by kernel_rfl) (fun _ _ _ h => h) (Or.inl ⟨by rfl, fun w' _ => by go_simp⟩) hHeld ?_
          simp only [Act.put]
          refine wpAnyH_take (i := 3) (v := .int .i64 i) rfl (by kernel_rfl) (by kernel_rfl) (by kernel_rfl) (fun _ _ _ h => h) (Or.inl ⟨by rfl, fun w' _ => by go_simp⟩) hHeld ?_
          simp only [Act.put]
          refine wpAnyH_take (i := 4) (v := .pointer (some ⟨bb, i * 769, none⟩)) rfl (by kernel_rfl) (by kernel_rfl) (by kernel_rfl) (fun _ _ _ h => h) (Or.inl ⟨by rfl, fun w' _ => by go_simp⟩) hHeld ?_
          simp only [Act.put]
          refine wpAnyH_take (i := 5) (v := .agg RB.toArray) rfl (by kernel_rfl) (by kernel_rfl) (by kernel_rfl) (fun _ _ _ h => h) (yieldsIf_load_mid (by rfl) 92 (.tmp 35) rfl bb (i * 769) rfl RB _ (fun _ h => h.2) hu rfl hiY) hHeld ?_
          simp only [Act.put]
          refine wpAnyH_take (i := 6) (v := .slice (some ⟨ba, oa, none⟩) L.length cc) rfl (by kernel_rfl) (by kernel_rfl) (by kernel_rfl) (fun _ _ _ h => h) (Or.inl ⟨by rfl, fun w' _ => by go_simp⟩) hHeld ?_
          simp only [Act.put]
          refine wpAnyH_ready (rs := [7]) (by kernel_rfl) (by simp) ?_
          refine AllReadyH.cons rfl (fun K hK => ?_) AllReadyH.nil
          go_simp
          go_at_call 66
          refine (hdi _ gD mD rD).mono ?_
          rintro e w2 ⟨r, rfl, hr, hb2⟩
          have CC := CC.below hb2
          have BD := BD.trans (hb2.mono BD.size)
          have gD := gD.below hb2 mD
          have mD := Nat.lt_of_lt_of_le mD hb2.size
          have rD := rD.below hb2
          have oD := own_below oD hb2
          clear hb2 hdi
          go_wp2_with fail
          refine hK.out _ _ CC (fun hHeld2 => ?_)
          clear hHeld hK K
          refine wpAnyH_ready (rs := [8]) (by kernel_rfl) (by simp) ?_
          refine AllReadyH.cons rfl (fun K hK => ?_) AllReadyH.nil
          go_simp
          refine hK.out _ _ CC (fun hHeld4 => ?_)
          refine wpAnyH_done (by kernel_rfl) ?_ _
          clear hK K hHeld2 hHeld4 CC hu
          cases r with
          | false =>
            have HN := H2.out (fun h => by have := hr.2 h; cases this)
            clear H2 H4 hr
            go_wp2
            go_roundg (L.length - (i + 1))
            case measure => omega
            case rel => exact ⟨i + 1, Fi, rfl, by go_num, by omega, HN, oD, BD⟩
          | true =>
            have HN := H4.out (hr.1 rfl)
            clear H2 H4 hr
            go_wp2_with fail
            have bD : Below w2.heap.size w2 w2.drew := ⟨rfl, rfl, rfl, Nat.le_refl _, fun _ _ => rfl⟩
            have BE := BD.trans (bD.mono BD.size)
            have gE := gD.below bD mD
            have oE := own_below oD bD
            have mE := Nat.lt_of_lt_of_le mD bD.size
            clear BD gD oD mD bD rD
            have h5 := hoc w2.drew gE
            have hzE := BE.size
            clear hoc gE
            go_region_held3 (fun w' => w'.cell? ⟨X, 0, none⟩ = some (.int .i64 ((z : Nat) : Int)) ∧ w'.cell? ⟨ba, oa + i, none⟩ = some (.int .i64 ((z : Nat) : Int))) (first | exact HS.out _ BE | exact HS.out _ B5 | exact HS.out _ B6 | exact HS.out _ B7)
              (first | (go_at_call 67; refine h5.mono ?_; rintro e w5 ⟨rfl, hb5⟩; have B5 := BE.trans (hb5.mono BE.size); have o5 := own_below oE hb5; have z5 := B5.size; have B6 : Below w0.heap.size w0 (w5.alloc (.cells #[.int .i64 ((z : Nat) : Int), .int .i64 es, .int .i64 ed, .int .i64 (-1)] 53)) := (B5.alloc z5 _); have o6 := (o5.alloc (.cells #[.int .i64 ((z : Nat) : Int), .int .i64 es, .int .i64 ed, .int .i64 (-1)] 53)); clear hb5 o5)
                     | (refine step_append_lies _ rfl (.tmp 40) (.tmp 54) 47 rfl w0.heap.size 53 i0 (.agg #[.int .i64 0, .int .i64 0, .int .i64 0, .int .i64 0]) 4 32 Tryz.underE hi hz0 hz1 hz2 rfl (by decide) _ _ _ rfl o6 ⟨w5.heap.size, 0, none⟩ 1 1 [.int .i64 ((z : Nat) : Int), .int .i64 es, .int .i64 ed, .int .i64 (-1)] rfl rfl (cell_four_new _ _ _ _ _ _) (by intro u hu; simp at hu; rcases hu with rfl | rfl | rfl | rfl <;> rfl) (by decide) (by unfold maxLen; omega) (by omega) (by simp; omega) _ rfl ?_; intro g7 c7 w7 hown7 hg7 _ hlt7; have B7 : Below w0.heap.size w0 w7 := (B6.grown hg7 (by simp; omega) (fun q hq => (o6.lt q hq).1))))
            have O7 := hown7
            rw [← hEV.out, ← HLen.out] at O7
            clear hown7 hg7 o6 B6
            go_wp2
            go_roundg (L.length - (i + 1))
            case measure => omega
            case rel => exact ⟨i + 1, Fz, rfl, by go_num, by omega, HN, by rw [HLen.out]; rw [HLen.out] at O7; exact O7, B7⟩
        · have na : (((z : Nat) : Int) == (a : Int)) = false := by rw [beq_eq_false_iff_ne]; omega
          have na' : ¬ (((z : Nat) : Int) = (a : Int)) := by omega
          clear hself
          go_wp2
          go_quiet (fail)
          clear na na'
          have bD : Below wr.heap.size wr (wr.drewN nq) := below_drewN (Below.refl _ _) _
          have Br := Br.trans (bD.mono Br.size)
          have xq := range_below xq bD
          have hray := range_below hray bD
          have gr := gr.below bD hmr
          have hmr := Nat.lt_of_lt_of_le hmr bD.size
          have hrowr := hrowr.below bD
          have hown := own_below hown bD
          clear bD hcell xa
          generalize wr.drewN nq = w1 at *
          have bD : Below w1.heap.size w1 w1.drew := ⟨rfl, rfl, rfl, Nat.le_refl _, fun _ _ => rfl⟩
          have CC : TwoR w1.drew X bb RA RB (i * 769) := ⟨range_below xq bD, range_below hray bD⟩
          have BD := Br.trans (bD.mono Br.size)
          have gD := gr.below bD hmr
          have mD := Nat.lt_of_lt_of_le hmr bD.size
          have rD := hrowr.below bD
          have oD := own_below hown bD
          have hu := Tryz.underlying92
          clear bD Br xq hray gr hmr hrowr hown
          go_wp2_with fail
          refine wp_region_held_drew (S := fun w' => w'.rangeAt X 0 RA ∧ w'.rangeAt bb (i * 769) RB) (by kernel_rfl) CC (fun hHeld => ?_)
          refine wpAnyH_take (i := 0) (v := .pointer (some ⟨M, 0, none⟩)) rfl (by kernel_rfl) (by kernel_rfl) (by kernel_rfl) (fun _ _ _ h => h) (Or.inl ⟨by rfl, fun w' _ => by go_simp⟩) hHeld ?_
          simp only [Act.put, List.setIfInBounds_toArray]
          refine wpAnyH_take (i := 1) (v := .agg RA.toArray) rfl (by kernel_rfl) (by kernel_rfl) (by kernel_rfl) (fun _ _ _ h => h) (yieldsIf_load_mid (by rfl) 92 (.tmp 6) rfl X 0 rfl RA _ (fun _ h => h.1) hu rfl hiX) hHeld ?_
          simp only [Act.put]
          refine wpAnyH_take (i := 2) (v := .slice (some ⟨bb, 0, none⟩) L.length cr) rfl (by kernel_rfl) (by kernel_rfl) (by kernel_rfl) (fun _ _ _ h => h) (Or.inl ⟨by rfl, fun w' _ => by go_simp⟩) hHeld ?_
          simp only [Act.put]
          refine wpAnyH_take (i := 3) (v := .int .i64 i) rfl (by kernel_rfl) (by kernel_rfl) (by kernel_rfl) (fun _ _ _ h => h) (Or.inl ⟨by rfl, fun w' _ => by go_simp⟩) hHeld ?_
          simp only [Act.put]
          refine wpAnyH_take (i := 4) (v := .pointer (some ⟨bb, i * 769, none⟩)) rfl (by kernel_rfl) (by kernel_rfl) (by kernel_rfl) (fun _ _ _ h => h) (Or.inl ⟨by rfl, fun w' _ => by go_simp⟩) hHeld ?_
          simp only [Act.put]
          refine wpAnyH_take (i := 5) (v := .agg RB.toArray) rfl (by kernel_rfl) (by kernel_rfl) (by kernel_rfl) (fun _ _ _ h => h) (yieldsIf_load_mid (by rfl) 92 (.tmp 35) rfl bb (i * 769) rfl RB _ (fun _ h => h.2) hu rfl hiY) hHeld ?_
          simp only [Act.put]
          refine wpAnyH_take (i := 6) (v := .slice (some ⟨ba, oa, none⟩) L.length cc) rfl (by kernel_rfl) (by kernel_rfl) (by kernel_rfl) (fun _ _ _ h => h) (Or.inl ⟨by rfl, fun w' _ => by go_simp⟩) hHeld ?_
          simp only [Act.put]
          refine wpAnyH_ready (rs := [7]) (by kernel_rfl) (by simp) ?_
          refine AllReadyH.cons rfl (fun K hK => ?_) AllReadyH.nil
          go_simp
          go_at_call 66
          refine (hdi _ gD mD rD).mono ?_
          rintro e w2 ⟨r, rfl, hr, hb2⟩
          have CC := CC.below hb2
          have BD := BD.trans (hb2.mono BD.size)
          have gD := gD.below hb2 mD
          have mD := Nat.lt_of_lt_of_le mD hb2.size
          have rD := rD.below hb2
          have oD := own_below oD hb2
          clear hb2 hdi
          go_wp2_with fail
          refine hK.out _ _ CC (fun hHeld2 => ?_)
          clear hHeld hK K
          refine wpAnyH_ready (rs := [8]) (by kernel_rfl) (by simp) ?_
          refine AllReadyH.cons rfl (fun K hK => ?_) AllReadyH.nil
          go_simp
          refine hK.out _ _ CC (fun hHeld4 => ?_)
          refine wpAnyH_done (by kernel_rfl) ?_ _
          clear hK K hHeld2 hHeld4 CC hu
          cases r with
          | false =>
            have HN := H2.out (fun h => by have := hr.2 h; cases this)
            clear H2 H4 hr
            go_wp2
            go_roundg (L.length - (i + 1))
            case measure => omega
            case rel => exact ⟨i + 1, Fi, rfl, by go_num, by omega, HN, oD, BD⟩
          | true =>
            have HN := H4.out (hr.1 rfl)
            clear H2 H4 hr
            go_wp2_with fail
            have bD : Below w2.heap.size w2 w2.drew := ⟨rfl, rfl, rfl, Nat.le_refl _, fun _ _ => rfl⟩
            have BE := BD.trans (bD.mono BD.size)
            have gE := gD.below bD mD
            have oE := own_below oD bD
            have mE := Nat.lt_of_lt_of_le mD bD.size
            clear BD gD oD mD bD rD
            have h5 := hoc w2.drew gE
            have hzE := BE.size
            clear hoc gE
            go_region_held3 (fun w' => w'.cell? ⟨X, 0, none⟩ = some (.int .i64 ((a : Nat) : Int)) ∧ w'.cell? ⟨ba, oa + i, none⟩ = some (.int .i64 ((z : Nat) : Int))) (first | exact HS.out _ BE | exact HS.out _ B5 | exact HS.out _ B6 | exact HS.out _ B7)
              (first | (go_at_call 67; refine h5.mono ?_; rintro e w5 ⟨rfl, hb5⟩; have B5 := BE.trans (hb5.mono BE.size); have o5 := own_below oE hb5; have z5 := B5.size; have B6 : Below w0.heap.size w0 (w5.alloc (.cells #[.int .i64 ((z : Nat) : Int), .int .i64 es, .int .i64 ed, .int .i64 (-1)] 53)) := (B5.alloc z5 _); have o6 := (o5.alloc (.cells #[.int .i64 ((z : Nat) : Int), .int .i64 es, .int .i64 ed, .int .i64 (-1)] 53)); clear hb5 o5)
                     | (refine step_append_lies _ rfl (.tmp 40) (.tmp 54) 47 rfl w0.heap.size 53 i0 (.agg #[.int .i64 0, .int .i64 0, .int .i64 0, .int .i64 0]) 4 32 Tryz.underE hi hz0 hz1 hz2 rfl (by decide) _ _ _ rfl o6 ⟨w5.heap.size, 0, none⟩ 1 1 [.int .i64 ((z : Nat) : Int), .int .i64 es, .int .i64 ed, .int .i64 (-1)] rfl rfl (cell_four_new _ _ _ _ _ _) (by intro u hu; simp at hu; rcases hu with rfl | rfl | rfl | rfl <;> rfl) (by decide) (by unfold maxLen; omega) (by omega) (by simp; omega) _ rfl ?_; intro g7 c7 w7 hown7 hg7 _ hlt7; have B7 : Below w0.heap.size w0 w7 := (B6.grown hg7 (by simp; omega) (fun q hq => (o6.lt q hq).1))))
            have O7 := hown7
            rw [← hEV.out, ← HLen.out] at O7
            clear hown7 hg7 o6 B6
            go_wp2
            go_roundg (L.length - (i + 1))
            case measure => omega
            case rel => exact ⟨i + 1, Fz, rfl, by go_num, by omega, HN, by rw [HLen.out]; rw [HLen.out] at O7; exact O7, B7⟩
    · have hge : i = L.length := by omega
      subst hge
      go_wp2
      go_ret
      have hX := HX.out
      exact ⟨_, Fi, rfl, ownsRow_base_a hown (by omega), hup.out, by rw [hX]; exact b0.trans (Br.mono (by omega))⟩
end Go.Proofs.YtcagpmglijockaaGreatDoor
/-
  The walk of 'CornerSays'.
-/
namespace Go.Proofs.YtcagpmglijockaaGreatDoor
open Go.RowKit

theorem StepsAt.pos' {w : World} (s : StepsAt w) : 0 < w.heap.size := World.block_lt_of_cell? w _ (s 0 (by decide)).1
theorem all_v {b : Nat} {W H V : Int} {bl : Nat → Bool} {l : List Nat} (hl : crs W H bl (W * H).toNat = l) (w : World) (g : GridAt w b W H V bl) (s : StepsAt w) (hb : b < w.heap.size) :
    Calls Tryz.prog 18 #[.pointer (some ⟨b, 0, none⟩)] w fun e w' => ∃ A cap, e = .returned (.slice A l.length cap) ∧ OldRow w' A l.length (fun i => (l.getD i 0 : Nat)) ∧ Below w.heap.size w w' :=
  (all_any w g s hb).mono fun e w' ⟨v, he, hown, hbl⟩ => by
    rw [hl] at hown
    obtain ⟨A, cap, rfl, hrow⟩ := row_of hown
    exact ⟨A, cap, he, hrow, hbl⟩
theorem rcorners_v {b : Nat} {W H V : Int} {bl : Nat → Bool} {l : List Nat} (hl : crs W H bl (W * H).toNat = l) (w : World) (g : RefAt w b W H V bl) (hb : b < w.heap.size) :
    Calls Tryz.prog 39 #[.pointer (some ⟨b, 0, none⟩)] w fun e w' => ∃ A cap, e = .returned (.slice A l.length cap) ∧ OldRow w' A l.length (fun i => (l.getD i 0 : Nat)) ∧ Below w.heap.size w w' :=
  (rcorners_any w g hb).mono fun e w' ⟨v, he, hown, hbl⟩ => by
    rw [hl] at hown
    obtain ⟨A, cap, rfl, hrow⟩ := row_of hown
    exact ⟨A, cap, he, hrow, hbl⟩

theorem four_row (w : World) : OldRow (w.alloc (.cells #[.int .i64 0, .int .i64 2, .int .i64 6, .int .i64 8] 3)) (some ⟨w.heap.size, 0, none⟩) 4 (fun i => (([0, 2, 6, 8] : List Nat).getD i 0 : Nat)) := fun i hi => by
  refine ⟨w.heap.size, 0, rfl, by simp, ?_⟩
  rw [Nat.zero_add]
  have hk : i = 0 ∨ i = 1 ∨ i = 2 ∨ i = 3 := by omega
  rcases hk with rfl | rfl | rfl | rfl <;> exact World.cell?_alloc_at #[.int .i64 0, .int .i64 2, .int .i64 6, .int .i64 8] 3 w.heap.size _ rfl

theorem boxedC (w : World) (W H : Int) (A : Option Addr) (n cap : Nat) {wa : World}
    (hb : Below (w.alloc (.cells #[.int .i64 W, .int .i64 H, .slice A n cap] 24)).heap.size (w.alloc (.cells #[.int .i64 W, .int .i64 H, .slice A n cap] 24)) wa) :
    wa.cell? ⟨w.heap.size, 0, none⟩ = some (.int .i64 W) ∧ wa.cell? ⟨w.heap.size, 1, none⟩ = some (.int .i64 H) ∧ wa.cell? ⟨w.heap.size, 2, none⟩ = some (.slice A n cap) := by
  have h : ∀ o, wa.cell? ⟨w.heap.size, o, none⟩ = #[Value.int .i64 W, .int .i64 H, .slice A n cap][o]? := fun o => by
    rw [hb.cell (p := ⟨w.heap.size, o, none⟩) (by simp), World.cell?_alloc_new]
  exact ⟨h 0, h 1, h 2⟩

end Go.Proofs.YtcagpmglijockaaGreatDoor
/-
  The reference's rays of all corners, and 'Connected'.
-/
namespace Go.Proofs.YtcagpmglijockaaGreatDoor
open Go.RowKit

theorem Tryz.und89 : Tryz.prog.underlying 89 = some (.slice 92) := by kernel_rfl
theorem info_ray : ∃ (ie : TypeInfo) (z : Value), Tryz.prog.info? 92 = some ie ∧ ie.zero = some z ∧ ie.size = 769 ∧ ie.bytes = 4360 ∧ z.cells.size = 769 := by
  have h1 : (Tryz.prog.info? 92).map (·.size) = some 769 := info112
  have h2 : (Tryz.prog.info? 92).map (·.bytes) = some 4360 := by kernel_rfl
  have h3 : ((Tryz.prog.info? 92).bind (·.zero)).map (·.cells.size) = some 769 := by kernel_rfl
  cases hie : Tryz.prog.info? 92 with
  | none => rw [hie] at h1; cases h1
  | some ie =>
    rw [hie] at h1 h2 h3
    cases hz : ie.zero with
    | none => rw [Option.bind_some, hz] at h3; cases h3
    | some z =>
      rw [Option.bind_some, hz] at h3
      exact ⟨ie, z, rfl, hz, Option.some.inj h1, Option.some.inj h2, Option.some.inj h3⟩
/-- one ray as a row of its own -/
theorem wpList_build_ray {ops : Array Oper} {rest : List Oper} {o : Oper} {a : Act} {w : World} {Q : Exit → Act → World → Prop} (hgd : o.guard = none) (x : Operand) (ho : o.op = .buildSlice 89 1 #[(0, x)]) (RL : List Value) (lR : RL.length = 769) (hx : a.eval x = .agg RL.toArray)
    (h : wpList Tryz.prog ops Q rest (a.put o.dst (.slice (some ⟨w.heap.size, 0, none⟩) 1 1)) (w.alloc (.cells RL.toArray 92))) : wpList Tryz.prog ops Q (o :: rest) a w := by
  obtain ⟨ie, z, hie, hz, hsz, hby, hzs⟩ := info_ray
  refine wpList_buildSlice hgd 89 92 1 #[(0, x)] ho RL.toArray ie z Tryz.und89 hie hz (by rw [hsz]; decide) (by rw [hsz]; decide) ?_ h
  have e0 : ((#[(0, x)] : Array (Nat × Operand)).map fun (i, x) => (i, a.eval x)).toList = (([a.eval x] : List Value).zipIdx 0).map fun x => (x.2, x.1) := by simp
  rw [e0, hx, hsz]
  have := Great.fill_whole (s := 769) (by decide) [Value.agg RL.toArray] ((Array.range (1 * 769)).map (z.cells[· % z.cells.size]!)) (fun v hv => by
    rw [List.mem_singleton] at hv
    rw [hv]
    show RL.toArray.size = 769
    rw [List.size_toArray, lR]) (by simp)
  have e1 : ([Value.agg RL.toArray].flatMap fun v => v.cells.toList) = RL := by
    rw [List.flatMap_cons, List.flatMap_nil, List.append_nil]
    rfl
  rw [e1] at this
  exact this

theorem best_ex {b : Nat} {W H V : Int} {bl : Nat → Bool} (w : World) (g : RefAt w b W H V bl) {c : Int} (hr : inB W H c = true) : ∃ F, Best (Edge W H bl) c F := by
  have hc : 0 ≤ c ∧ c < W * H := of_decide_eq_true hr
  obtain ⟨n, rfl⟩ : ∃ n : Nat, c = n := ⟨c.toNat, by omega⟩
  obtain ⟨e, w', fr, h, _⟩ := rflood_any n w g (World.block_lt_of_cell? _ _ g.c0) hr []
  obtain ⟨F, _, hB, _⟩ := h
  exact ⟨F, hB⟩
theorem bests_ex {b : Nat} {W H V : Int} {bl : Nat → Bool} (w : World) (g : RefAt w b W H V bl) : ∃ Fl : Int → Int → Option (Int × Int), ∀ c, CornC W H bl c → Best (Edge W H bl) c (Fl c) := by
  have h : ∀ c, ∃ F, CornC W H bl c → Best (Edge W H bl) c F := fun c => by
    by_cases hc : CornC W H bl c
    · obtain ⟨F, hF⟩ := best_ex w g (cornC_in g.w1 hc)
      exact ⟨F, fun _ => hF⟩
    · exact ⟨fun _ => none, fun h => absurd h hc⟩
  exact ⟨fun c => Classical.choose (h c), fun c => Classical.choose_spec (h c)⟩
/-- the ray of a corner -/
theorem from_c {M : Nat} {W H V : Int} {bl : Nat → Bool} {F : Int → Option (Int × Int)} (c : Nat) (w : World) (g : RefAt w M W H V bl) (hml : M < w.heap.size) (hr : inB W H c = true) (hF : Best (Edge W H bl) c F) :
    Calls Tryz.prog 40 #[.pointer (some ⟨M, 0, none⟩), .int .i64 (c : Int)] w fun e w' => e = .returned (.agg (rayL c F).toArray) ∧ Below w.heap.size w w' :=
  (from_any c w g hml hr).mono fun e w' ⟨G, he, hG, hb⟩ => ⟨by rw [he, hF.unique hG], hb⟩
theorem take_flat {L : List Nat} {i : Nat} (h : i < L.length) (R : Nat → List Value) : (L.take (i + 1)).flatMap R = (L.take i).flatMap R ++ R (L.getD i 0) := by
  rw [List.take_succ_eq_append_getElem h, List.flatMap_append, ← getD_at _ _ h]
  simp

set_option maxHeartbeats 1000000 in
set_option maxRecDepth 1000000 in
theorem rconn' {M c : Nat} {W H V : Int} {bl : Nat → Bool} {F : Int → Option (Int × Int)} {RA : List Value} {R : Nat → List Value} {Fl : Int → Int → Option (Int × Int)} {L : List Nat} (w : World) (g : RefAt w M W H V bl) (hml : M < w.heap.size)
    (hA : ∀ w : World, RayAt (w.alloc (.cells RA.toArray 92)) w.heap.size c F) (hAr : ∀ w : World, (w.alloc (.cells RA.toArray 92)).rangeAt w.heap.size 0 RA) (lA : RA.length = 769) (BF : Best (Edge W H bl) c F) (hc : inB W H c = true)
    (hR : ∀ n, (R n).length = 769) (hR1 : ∀ n, ∀ u ∈ R n, u.oneCell' = true) (hRn : ∀ (n : Nat) (w : World), RayAt (w.alloc (.cells (R n).toArray 92)) w.heap.size n (Fl n)) (hB : ∀ c, CornC W H bl c → Best (Edge W H bl) c (Fl c))
    (hL : crs W H bl (W * H).toNat = L)
    (hfc : ∀ w' : World, RefAt w' M W H V bl → M < w'.heap.size → Calls Tryz.prog 40 #[.pointer (some ⟨M, 0, none⟩), .int .i64 (c : Int)] w' fun e w'' => e = .returned (.agg RA.toArray) ∧ Below w'.heap.size w' w'')
    (hfn : ∀ (n : Nat) (w' : World), CornC W H bl n → RefAt w' M W H V bl → M < w'.heap.size → Calls Tryz.prog 40 #[.pointer (some ⟨M, 0, none⟩), .int .i64 (n : Int)] w' fun e w'' => e = .returned (.agg (R n).toArray) ∧ Below w'.heap.size w' w'') :
    Calls Tryz.prog 27 #[.pointer (some ⟨M, 0, none⟩), .int .i64 c] w fun e w' => ∃ v l, e = .returned v ∧ w'.ownsRow w.heap.size 53 4 v l.length (edgesV W c l) ∧ Upto L (EdgeP W H bl true c) L.length l ∧ Below w.heap.size w w' := by
  have gw1 := g.w1
  have hwh := wh_bd g.w1 g.w2 g.h1 g.h2
  obtain ⟨ie, zr, hie, hzr, hsz, hby, hzs⟩ := info_ray
  have hLL : L.length ≤ 256 := by rw [← hL]; have := crs_len W H bl (W * H).toNat; omega
  have HC : Hid (∀ i, i < L.length → CornC W H bl ((L.getD i 0 : Nat) : Int)) := fun i hi => by
    have := crs_mem.1 (show L.getD i 0 ∈ crs W H bl (W * H).toNat by rw [hL, getD_at _ _ hi]; exact List.getElem_mem hi)
    exact cornB_iff.1 this.2
  have hco := rcorners_v hL w g hml
  have HL : Hid (crs W H bl (W * H).toNat = L) := hL
  clear hL
  go_enter Tryz.func27, Tryz.ntmps27
  go_wp2_with fail
  refine hco.mono ?_
  rintro e w1 ⟨A, cap, rfl, hrow, hb1⟩
  clear hco
  go_wp2
  go_loopg [6, 7] L.length (fun gk lv iv wr => ∃ (i : Nat), gk = L.length - i ∧ iv = .int .i64 i ∧ i ≤ L.length ∧ wr.ownsRow w1.heap.size 92 769 lv i ((L.take i).flatMap R) ∧ Below w1.heap.size w1 wr)
  case atStart => exact ⟨0, rfl, rfl, Nat.zero_le _, World.ownsRow_nil _ _ _ _, Below.refl _ _⟩
  case round =>
    obtain ⟨i, hgk, rfl, hi', hown, Br⟩ := hrel
    have Bw := hb1.trans (Br.mono hb1.size)
    have gr := g.below Bw hml
    have hmr := Nat.lt_of_lt_of_le hml Bw.size
    have hzw := Bw.size
    by_cases hlt : i < L.length
    · obtain ⟨ba, oa, rfl, hba, hcell0⟩ := (hrow.below Br) i hlt
      have hzc := HC.out i hlt
      have htk := take_flat hlt R
      obtain ⟨z, hzz⟩ : ∃ z, L.getD i 0 = z := ⟨_, rfl⟩
      rw [hzz] at hzc htk
      have hcell : wr.cell? ⟨ba, oa + i, none⟩ = some (.int .i64 (z : Int)) := by rw [← hzz]; exact hcell0
      have hf := hfn z wr hzc gr hmr
      have HTK : Hid ((L.take (i + 1)).flatMap R = (L.take i).flatMap R ++ R z) := htk
      have lz := hR z
      have oz := hR1 z
      have i1 : (0 : Int) ≤ (i : Int) := by omega
      have i2 : (i : Int) < (L.length : Int) := by omega
      clear hcell0 hzz htk
      generalize R z = RZ at *
      go_wp2_with fail
      refine hf.mono ?_
      rintro e w5 ⟨rfl, hb5⟩
      have hown5 := own_below hown hb5
      have B5 := Br.trans (hb5.mono Br.size)
      have hz5 := B5.size
      have hw1 := hb1.size
      have hrn := range_new w5 RZ 92
      clear hf hown Br hcell hb5
      go_wp2_with (first
        | (refine wpList_build_ray rfl _ rfl RZ lz rfl ?_)
        | (at_builtin; refine wpList_append_own _ rfl _ _ 89 rfl w1.heap.size 92 ie zr 769 4360 Tryz.und89 hie hzr hsz hby hzs (by decide) _ _ _ rfl (hown5.alloc _) ⟨w5.heap.size, 0, none⟩ 1 1 RZ rfl (by rw [lz]) ?c2 oz ?c3 ?c4 ?c5 ?_))
      case c2 =>
        intro j u hj
        have := hrn j u hj
        rw [Nat.zero_add] at this
        have hadd : (⟨w5.heap.size, 0, none⟩ : Addr).add j = ⟨w5.heap.size, j, none⟩ := by unfold Addr.add; split <;> simp_all
        rw [hadd]
        exact this
      case c3 => unfold maxLen; omega
      case c4 => omega
      case c5 => simp; omega
      intro v6 w6 hown6 hg6 _
      have B6 : Below w1.heap.size w1 w6 := (B5.alloc hz5 _).grown hg6 (by simp; omega) (fun q hq => (hown5.lt q hq).1)
      rw [← HTK.out] at hown6
      clear hown5 B5 hrn hg6
      go_wp2
      go_roundg (L.length - (i + 1))
      case measure => omega
      case rel => exact ⟨i + 1, rfl, by go_num, by omega, hown6, B6⟩
    · have hge : i = L.length := by omega
      subst hge
      rw [List.take_length] at hown
      obtain ⟨AR, cr, rfl, hrays⟩ := rays_of hR hown
      have hrow := hrow.below Br
      have hf := hfc wr gr hmr
      clear hfn hown
      go_wp2_with fail
      refine hf.mono ?_
      rintro e w5 ⟨rfl, hb5⟩
      have B5 := Bw.trans (hb5.mono Bw.size)
      have hed := redges' (cr := cr) (cc := cap) (self := true) w5 (gr.below hb5 hmr) (Nat.lt_of_lt_of_le hmr hb5.size) hA hAr lA BF hc hR hRn hB HL.out (hrays.below hb5) (hrow.below hb5)
      clear hf hfc hrays hrow
      go_wp2_with fail
      refine hed.mono ?_
      rintro e w6 ⟨v, l, rfl, hown6, hup, hb6⟩
      clear hed
      go_wp2
      go_ret
      exact ⟨v, l, rfl, ownsRow_base_a hown6 B5.size, hup, B5.trans (hb6.mono B5.size)⟩

theorem Upto.all {W H : Int} {bl : Nat → Bool} {P : Nat → Prop} {l : List Nat} (h : Upto (crs W H bl (W * H).toNat) P (crs W H bl (W * H).toNat).length l) (n : Nat) : n ∈ l ↔ n ∈ crs W H bl (W * H).toNat ∧ P n := by
  rw [h.2 n]
  constructor
  · rintro ⟨j, hj, e, hp⟩
    exact ⟨by rw [← e, getD_at _ _ hj]; exact List.getElem_mem hj, hp⟩
  · rintro ⟨hm, hp⟩
    obtain ⟨j, hj, e⟩ := List.getElem_of_mem hm
    exact ⟨j, hj, by rw [getD_at _ _ hj, e], hp⟩
theorem in_crs {W H : Int} {bl : Nat → Bool} (w1 : 1 ≤ W) {n : Nat} : n ∈ crs W H bl (W * H).toNat ↔ cornB W H bl (n : Int) = true := by
  rw [crs_mem]
  constructor
  · exact fun h => h.2
  · intro h
    have h3 : 0 ≤ (n : Int) ∧ (n : Int) < W * H := of_decide_eq_true (cornC_in w1 (cornB_iff.1 h))
    exact ⟨by omega, h⟩

theorem rconn_any {M c : Nat} {W H V : Int} {bl : Nat → Bool} (w : World) (g : RefAt w M W H V bl) (hml : M < w.heap.size) (hc : inB W H c = true) :
    Calls Tryz.prog 27 #[.pointer (some ⟨M, 0, none⟩), .int .i64 c] w fun e w' => ∃ v l, e = .returned v ∧ w'.ownsRow w.heap.size 53 4 v l.length (edgesV W c l) ∧ (l.Pairwise (· < ·) ∧ ∀ n : Nat, n ∈ l ↔ Dir W H bl c n ∧ cornB W H bl n = true) ∧ Below w.heap.size w w' := by
  have gw1 := g.w1
  obtain ⟨F, hF⟩ := best_ex w g hc
  obtain ⟨Fl, hFl⟩ := bests_ex w g
  refine (rconn' (RA := rayL c F) (R := fun n => rayL n (Fl n)) w g hml (ray_new c F) (fun w => range_new w _ 92) (rayL_len _ _) hF hc (fun n => rayL_len _ _) (fun n => rayL_one _ _) (fun n => ray_new n (Fl n)) hFl rfl (fun w' g' h' => from_c c w' g' h' hc hF) (fun n w' hn g' h' => from_c n w' g' h' (cornC_in gw1 hn) (hFl _ hn))).mono ?_
  rintro e w' ⟨v, l, rfl, ho, hu, hb⟩
  refine ⟨v, l, rfl, ho, ⟨hu.1, fun n => ?_⟩, hb⟩
  rw [hu.all n, in_crs gw1]
  unfold EdgeP
  constructor
  · rintro ⟨h1, _, h2⟩
    exact ⟨h2, h1⟩
  · rintro ⟨h1, h2⟩
    exact ⟨h2, Or.inl rfl, h1⟩
end Go.Proofs.YtcagpmglijockaaGreatDoor
