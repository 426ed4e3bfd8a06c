/-
  Texts laid together: RlA, RlB, RlU.
-/
import Derived.Test.YtmnpplkjhnoglaaGreatDoorP47
/-
  The reference's 'lay' and 'edgeTo'. (For LevelsSays.)
-/
namespace Go.Proofs.YtmnpplkjhnoglaaGreatDoor
open Go.RowKit

theorem layF_after {x : LE} : ∀ {p q : List LE}, (∀ e ∈ p, e.to < x.to) → layF x (p ++ q) = p ++ layF x q
  | [], _, _ => rfl
  | y :: p, q, h => by
    have hy := h y (List.mem_cons_self ..)
    show layF x (y :: (p ++ q)) = y :: (p ++ layF x q)
    rw [show layF x (y :: (p ++ q)) = if x.to < y.to then x :: y :: (p ++ q) else if x.to = y.to then x :: (p ++ q) else y :: layF x (p ++ q) from by rw [layF]]
    rw [if_neg (by omega), if_neg (by omega), layF_after (fun e he => h e (List.mem_cons_of_mem _ he))]
theorem layF_app {x y : LE} : ∀ {p : List LE}, (∃ e ∈ p, x.to ≤ e.to) → layF x (p ++ [y]) = layF x p ++ [y]
  | [], ⟨e, he, _⟩ => absurd he List.not_mem_nil
  | z :: p, ⟨e, he, hle⟩ => by
    show layF x (z :: (p ++ [y])) = layF x (z :: p) ++ [y]
    unfold layF
    by_cases h1 : x.to < z.to
    · rw [if_pos h1, if_pos h1]; rfl
    · rw [if_neg h1, if_neg h1]
      by_cases h2 : x.to = z.to
      · rw [if_pos h2, if_pos h2]; rfl
      · rw [if_neg h2, if_neg h2]
        have : ∃ e ∈ p, x.to ≤ e.to := by
          rcases List.mem_cons.1 he with rfl | he
          · omega
          · exact ⟨e, he, hle⟩
        rw [layF_app this]; rfl
theorem layF_end {x : LE} {p : List LE} (h : ∀ e ∈ p, e.to < x.to) : layF x p = p ++ [x] := by
  have := layF_after (q := []) h
  rw [List.append_nil] at this
  exact this
/-- how far laying has come -/
structure LayI (x : LE) (l : List LE) (i : Nat) (laid : Bool) (F : List LE) : Prop where
  no : laid = false → F = l.take i ∧ ∀ e ∈ l.take i, e.to < x.to
  yes : laid = true → F = layF x (l.take i) ∧ ∃ e ∈ l.take i, x.to ≤ e.to
theorem LayI.start (x : LE) (l : List LE) : LayI x l 0 false [] := ⟨fun _ => ⟨rfl, fun e he => by rw [List.take_zero] at he; exact absurd he List.not_mem_nil⟩, fun h => (by cases h)⟩
section
variable {x y : LE} {l F : List LE} {i : Nat}
theorem take_s (hy : l[i]? = some y) : l.take (i + 1) = l.take i ++ [y] := by rw [List.take_add_one, hy]; rfl
theorem LayI.past (hR : Rsg l) (h : LayI x l i true F) (hy : l[i]? = some y) : x.to < y.to ∧ LayI x l (i + 1) true (F ++ [y]) := by
  obtain ⟨rfl, e, he, hle⟩ := h.yes rfl
  have hlt : e.to < y.to := by
    obtain ⟨j, hj, hje⟩ := List.getElem_of_mem he
    rw [List.length_take] at hj
    rw [List.getElem_take] at hje
    obtain ⟨h1, h2⟩ := List.getElem?_eq_some_iff.1 hy
    have := List.pairwise_iff_getElem.1 hR j i (by omega) h1 (by omega)
    rw [hje, h2] at this
    exact this
  refine ⟨by omega, fun h => (by cases h), fun _ => ?_⟩
  rw [take_s hy]
  exact ⟨(layF_app ⟨e, he, hle⟩).symm, e, List.mem_append.2 (Or.inl he), hle⟩
theorem LayI.low (h : LayI x l i false F) (hy : l[i]? = some y) (hlt : y.to < x.to) : LayI x l (i + 1) false (F ++ [y]) := by
  obtain ⟨rfl, ha⟩ := h.no rfl
  refine ⟨fun _ => ?_, fun h => (by cases h)⟩
  rw [take_s hy]
  refine ⟨rfl, fun e he => ?_⟩
  rcases List.mem_append.1 he with he | he
  · exact ha e he
  · rw [List.mem_singleton.1 he]; exact hlt
theorem LayI.at (h : LayI x l i false F) (hy : l[i]? = some y) (he : x.to = y.to) : LayI x l (i + 1) true (F ++ [x]) := by
  obtain ⟨rfl, ha⟩ := h.no rfl
  refine ⟨fun h => (by cases h), fun _ => ?_⟩
  rw [take_s hy, layF_after ha]
  refine ⟨?_, y, List.mem_append.2 (Or.inr (List.mem_singleton.2 rfl)), by omega⟩
  unfold layF
  rw [if_neg (by omega), if_pos he]
theorem LayI.up (h : LayI x l i false F) (hy : l[i]? = some y) (he : x.to < y.to) : LayI x l (i + 1) true (F ++ [x] ++ [y]) := by
  obtain ⟨rfl, ha⟩ := h.no rfl
  refine ⟨fun h => (by cases h), fun _ => ?_⟩
  rw [take_s hy, layF_after ha]
  refine ⟨?_, y, List.mem_append.2 (Or.inr (List.mem_singleton.2 rfl)), by omega⟩
  unfold layF
  rw [if_pos he, List.append_assoc]
  rfl
theorem LayI.fin {b : Bool} (h : LayI x l l.length b F) : (b = true → F = layF x l) ∧ (b = false → F ++ [x] = layF x l) := by
  constructor
  · rintro rfl
    have := (h.yes rfl).1
    rwa [List.take_length] at this
  · rintro rfl
    obtain ⟨rfl, ha⟩ := h.no rfl
    rw [List.take_length] at ha ⊢
    exact (layF_end ha).symm
end
set_option maxHeartbeats 4000000 in
set_option maxRecDepth 1000000 in
theorem rlay_any {cap : Nat} {A : Option Addr} {l : List LE} {x : LE} (w : World) (hrow : RowL w A l) (hR : Rsg l) (hl : l.length ≤ 256) :
    Calls Tryz.prog 92 #[.slice A l.length cap, .agg #[.int .i64 (x.to : Int), .int .i64 x.s, .int .i64 x.d, .int .i64 x.mid]] w fun e w' => ∃ v, e = .returned v ∧ w'.ownsRow w.heap.size 67 4 v (layF x l).length (lesV (layF x l)) ∧ Below w.heap.size w w' := by
  obtain ⟨i0, hi, hz0, hz1, hz2⟩ := info_parts Tryz.infoE
  have b0 : Below w.heap.size w (w.alloc (.cells #[.int .i64 (x.to : Int), .int .i64 x.s, .int .i64 x.d, .int .i64 x.mid] 67)) := (Below.refl _ _).alloc (Nat.le_refl _) _
  have HZ : Hid (w.heap.size ≤ (w.alloc (.cells #[.int .i64 (x.to : Int), .int .i64 x.s, .int .i64 x.d, .int .i64 x.mid] 67)).heap.size) := by unfold Hid; simp
  have x0 : (w.alloc (.cells #[.int .i64 (x.to : Int), .int .i64 x.s, .int .i64 x.d, .int .i64 x.mid] 67)).cell? ⟨w.heap.size, 0, none⟩ = some (.int .i64 (x.to : Int)) := World.cell?_alloc_at _ _ _ 0 rfl
  have x1 : (w.alloc (.cells #[.int .i64 (x.to : Int), .int .i64 x.s, .int .i64 x.d, .int .i64 x.mid] 67)).cell? ⟨w.heap.size, 1, none⟩ = some (.int .i64 x.s) := World.cell?_alloc_at _ _ _ 1 rfl
  have x2 : (w.alloc (.cells #[.int .i64 (x.to : Int), .int .i64 x.s, .int .i64 x.d, .int .i64 x.mid] 67)).cell? ⟨w.heap.size, 2, none⟩ = some (.int .i64 x.d) := World.cell?_alloc_at _ _ _ 2 rfl
  have x3 : (w.alloc (.cells #[.int .i64 (x.to : Int), .int .i64 x.s, .int .i64 x.d, .int .i64 x.mid] 67)).cell? ⟨w.heap.size, 3, none⟩ = some (.int .i64 x.mid) := World.cell?_alloc_at _ _ _ 3 rfl
  have HXV : Hid (leV x = [.int .i64 (x.to : Int), .int .i64 x.s, .int .i64 x.d, .int .i64 x.mid]) := rfl
  have HI0 : Hid (LayI x l 0 false []) := LayI.start x l
  have HR : Hid (Rsg l) := hR
  have hrow0 := hrow.below b0
  have HXT : Hid (∃ xt xs xd xm, xt = (x.to : Int) ∧ xs = x.s ∧ xd = x.d ∧ xm = x.mid) := ⟨_, _, _, _, rfl, rfl, rfl, rfl⟩
  clear hrow hR
  clear HXT
  generalize hxt : (x.to : Int) = xt at *
  have HXZ : Hid ((x.to : Int) = xt) := hxt
  clear hxt
  go_enter Tryz.func92, Tryz.ntmps92
  go_wp2
  generalize w.alloc (.cells #[.int .i64 xt, .int .i64 x.s, .int .i64 x.d, .int .i64 x.mid] 67) = w0 at *
  go_loopw [5, 6, 7] (fun fv lv iv wr => ∃ (i : Nat) (b : Bool) (F : List LE), i ≤ l.length ∧ iv = .int .i64 i ∧ lv = .bool b ∧ Hid (LayI x l i b F) ∧ F.length ≤ 2 * i ∧ wr.ownsRow w0.heap.size 67 4 fv F.length (lesV F) ∧ Below w0.heap.size w0 wr)
    (fun _ _ i _ => l.length - (intOf i).toNat)
  case atStart => exact ⟨0, false, [], Nat.zero_le _, rfl, rfl, HI0.out, Nat.le_refl _, World.ownsRow_nil _ _ _ _, Below.refl _ _⟩
  case round =>
    clear HI0
    obtain ⟨i, b, F, hi1, rfl, rfl, HI, hF, hown, hB⟩ := hrel
    have kx : ∀ {o : Nat} {v : Value}, w0.cell? ⟨w.heap.size, o, none⟩ = some v → wr.cell? ⟨w.heap.size, o, none⟩ = some v := fun {o v} h => (hB.cell (World.block_lt_of_cell? _ _ h)).trans h
    have y0 := kx x0
    have y1 := kx x1
    have y2 := kx x2
    have y3 := kx x3
    have hbz := hB.size
    by_cases hlt : i < l.length
    · obtain ⟨y, hy⟩ : ∃ y, l[i]? = some y := ⟨l[i], List.getElem?_eq_getElem hlt⟩
      obtain ⟨ba, o, rfl, q0, q1, q2, q3⟩ := (hrow0.below hB) i y hy
      have HQ : Hid (ba < w0.heap.size ∧ w0.cell? ⟨ba, o + i * 4, none⟩ = some (.int .i64 (y.to : Int)) ∧ w0.cell? ⟨ba, o + i * 4 + 1, none⟩ = some (.int .i64 y.s) ∧ w0.cell? ⟨ba, o + i * 4 + 2, none⟩ = some (.int .i64 y.d) ∧ w0.cell? ⟨ba, o + i * 4 + 3, none⟩ = some (.int .i64 y.mid)) := by
        obtain ⟨b', o', e', k0, k1, k2, k3⟩ := hrow0 i y hy
        cases e'
        exact ⟨World.block_lt_of_cell? _ _ k0, k0, k1, k2, k3⟩
      have HYV : Hid (leV y = [.int .i64 (y.to : Int), .int .i64 y.s, .int .i64 y.d, .int .i64 y.mid]) := rfl
      have i1 : (0 : Int) ≤ (i : Int) := by omega
      have i2 : (i : Int) < (l.length : Int) := by omega
      generalize hyt : (y.to : Int) = yt at *
      have HYZ : Hid ((y.to : Int) = yt) := hyt
      have HC1 : Hid (x.to ≤ y.to ↔ xt ≤ yt) := by have := HXZ.out; unfold Hid; omega
      have HC2 : Hid (x.to = y.to ↔ xt = yt) := by have := HXZ.out; unfold Hid; omega
      clear kx hyt
      cases b with
      | true =>
        obtain ⟨hgt, hnx⟩ := HI.out.past HR.out hy
        have HN : Hid (LayI x l (i + 1) true (F ++ [y])) := hnx
        have hne : (yt != xt) = true := bne_iff_ne.2 (fun e => by have := HXZ.out; have := HYZ.out; omega)
        clear hnx HI hy hgt
        go_wp2_with fail
        go_quiet (fail)
        have own1 := own_below hown (w' := wr.drewN nq) (below_drewN (Below.refl _ _) _)
        have B1 : Below w0.heap.size w0 (wr.drewN nq) := below_drewN hB _
        have q0 : (wr.drewN nq).cell? ⟨ba, o + i * 4, none⟩ = some (.int .i64 yt) := q0
        have q1 : (wr.drewN nq).cell? ⟨ba, o + i * 4 + 1, none⟩ = some (.int .i64 y.s) := q1
        have q2 : (wr.drewN nq).cell? ⟨ba, o + i * 4 + 2, none⟩ = some (.int .i64 y.d) := q2
        have q3 : (wr.drewN nq).cell? ⟨ba, o + i * 4 + 3, none⟩ = some (.int .i64 y.mid) := q3
        have y0 : (wr.drewN nq).cell? ⟨w.heap.size, 0, none⟩ = some (.int .i64 xt) := y0
        clear hown hB y1 y2 y3
        generalize wr.drewN nq = W1 at *
        go_wp2_with fail
        go_quiet (fail)
        have own2 := own_below own1 (w' := W1.drewN nq) (below_drewN (Below.refl _ _) _)
        have B2 : Below w0.heap.size w0 (W1.drewN nq) := below_drewN B1 _
        have q0 : (W1.drewN nq).cell? ⟨ba, o + i * 4, none⟩ = some (.int .i64 yt) := q0
        have q1 : (W1.drewN nq).cell? ⟨ba, o + i * 4 + 1, none⟩ = some (.int .i64 y.s) := q1
        have q2 : (W1.drewN nq).cell? ⟨ba, o + i * 4 + 2, none⟩ = some (.int .i64 y.d) := q2
        have q3 : (W1.drewN nq).cell? ⟨ba, o + i * 4 + 3, none⟩ = some (.int .i64 y.mid) := q3
        clear own1 B1 y0 hne
        generalize W1.drewN nq = W2 at *
        go_wp2_with (at_builtin; refine wpList_append_own _ rfl _ _ 52 rfl w0.heap.size 67 i0 (.agg #[.int .i64 0, .int .i64 0, .int .i64 0, .int .i64 0]) 4 32 Tryz.underE hi hz0 hz1 hz2 rfl (by decide) _ _ _ rfl (own2.alloc _) ⟨W2.heap.size, 0, none⟩ 1 1 [.int .i64 yt, .int .i64 y.s, .int .i64 y.d, .int .i64 y.mid] rfl rfl (cell_four_new _ _ _ _ _ _) (by intro u hu; simp at hu; rcases hu with rfl | rfl | rfl | rfl <;> rfl) ?c3 ?c4 ?c5 ?_)
        case c3 => unfold maxLen; omega
        case c4 => have := B2.size; omega
        case c5 => have := B2.size; simp; omega
        intro vW4 W4 hownW4 hgrowW4 _
        have hbaseW4 := fun q hq => (own2.lt q hq).1
        have BW4 : Below w0.heap.size w0 W4 := (B2.alloc B2.size _).grown hgrowW4 (by simp; have := B2.size; omega) hbaseW4
        have OW4 : W4.ownsRow w0.heap.size 67 4 vW4 (F ++ [y]).length (lesV (F ++ [y])) := by
          rw [lesV_app, lesV_one, HYV.out]
          simpa using hownW4
        have hlenW4 : (F ++ [y]).length ≤ 1000 := by rw [List.length_append]; show _ + 1 ≤ _; omega
        clear hownW4 hgrowW4 hbaseW4 own2 B2 q0 q1 q2 q3
        go_wp2
        go_roundw
        case rel => exact ⟨i + 1, true, _, by omega, by go_num, rfl, HN.out, by simp; omega, OW4, BW4⟩
        case measure => simp [intOf]; omega
      | false =>
        by_cases hc : x.to ≤ y.to
        · have hle : decide (xt ≤ yt) = true := decide_eq_true (HC1.out.1 hc)
          by_cases he : x.to = y.to
          · have HN : Hid (LayI x l (i + 1) true (F ++ [x])) := HI.out.at hy he
            have hne : (yt != xt) = false := bne_eq_false_iff_eq.2 (by have := HXZ.out; have := HYZ.out; omega)
            clear HI hy he hc
            go_wp2_with fail
            go_quiet (fail)
            have own1 := own_below hown (w' := wr.drewN nq) (below_drewN (Below.refl _ _) _)
            have B1 : Below w0.heap.size w0 (wr.drewN nq) := below_drewN hB _
            have q0 : (wr.drewN nq).cell? ⟨ba, o + i * 4, none⟩ = some (.int .i64 yt) := q0
            have y0 : (wr.drewN nq).cell? ⟨w.heap.size, 0, none⟩ = some (.int .i64 xt) := y0
            have y1 : (wr.drewN nq).cell? ⟨w.heap.size, 1, none⟩ = some (.int .i64 x.s) := y1
            have y2 : (wr.drewN nq).cell? ⟨w.heap.size, 2, none⟩ = some (.int .i64 x.d) := y2
            have y3 : (wr.drewN nq).cell? ⟨w.heap.size, 3, none⟩ = some (.int .i64 x.mid) := y3
            clear hown hB q1 q2 q3 hle
            generalize wr.drewN nq = W1 at *
            go_wp2_with (at_builtin; refine wpList_append_own _ rfl _ _ 52 rfl w0.heap.size 67 i0 (.agg #[.int .i64 0, .int .i64 0, .int .i64 0, .int .i64 0]) 4 32 Tryz.underE hi hz0 hz1 hz2 rfl (by decide) _ _ _ rfl (own1.alloc _) ⟨W1.heap.size, 0, none⟩ 1 1 [.int .i64 xt, .int .i64 x.s, .int .i64 x.d, .int .i64 x.mid] rfl rfl (cell_four_new _ _ _ _ _ _) (by intro u hu; simp at hu; rcases hu with rfl | rfl | rfl | rfl <;> rfl) ?c3 ?c4 ?c5 ?_)
            case c3 => unfold maxLen; omega
            case c4 => have := B1.size; omega
            case c5 => have := B1.size; simp; omega
            intro vW2 W2 hownW2 hgrowW2 _
            have hbaseW2 := fun q hq => (own1.lt q hq).1
            have BW2 : Below w0.heap.size w0 W2 := (B1.alloc B1.size _).grown hgrowW2 (by simp; have := B1.size; omega) hbaseW2
            have OW2 : W2.ownsRow w0.heap.size 67 4 vW2 (F ++ [x]).length (lesV (F ++ [x])) := by
              rw [lesV_app, lesV_one, HXV.out]
              simpa using hownW2
            have hlenW2 : (F ++ [x]).length ≤ 1000 := by rw [List.length_append]; show _ + 1 ≤ _; omega
            clear hownW2 hgrowW2 hbaseW2 own1 B1 q0 y0 y1 y2 y3
            have q0 := (BW2.cell (p := ⟨ba, o + i * 4, none⟩) HQ.out.1).trans HQ.out.2.1
            have y0 := (BW2.cell (World.block_lt_of_cell? _ _ x0)).trans x0
            go_wp2_with fail
            go_quiet (fail)
            have own3 := own_below OW2 (w' := W2.drewN nq) (below_drewN (Below.refl _ _) _)
            have BW3 : Below w0.heap.size w0 (W2.drewN nq) := below_drewN BW2 _
            clear OW2 BW2 q0 y0 hne
            generalize W2.drewN nq = W3 at *
            have OW3 := own3
            go_wp2
            go_roundw
            case rel => exact ⟨i + 1, true, _, by omega, by go_num, rfl, HN.out, by simp; omega, OW3, BW3⟩
            case measure => simp [intOf]; omega
          · have HN : Hid (LayI x l (i + 1) true (F ++ [x] ++ [y])) := HI.out.up hy (by omega)
            have hne : (yt != xt) = true := bne_iff_ne.2 (fun e => by have := HXZ.out; have := HYZ.out; omega)
            clear HI hy he hc
            go_wp2_with fail
            go_quiet (fail)
            have own1 := own_below hown (w' := wr.drewN nq) (below_drewN (Below.refl _ _) _)
            have B1 : Below w0.heap.size w0 (wr.drewN nq) := below_drewN hB _
            have y0 : (wr.drewN nq).cell? ⟨w.heap.size, 0, none⟩ = some (.int .i64 xt) := y0
            have y1 : (wr.drewN nq).cell? ⟨w.heap.size, 1, none⟩ = some (.int .i64 x.s) := y1
            have y2 : (wr.drewN nq).cell? ⟨w.heap.size, 2, none⟩ = some (.int .i64 x.d) := y2
            have y3 : (wr.drewN nq).cell? ⟨w.heap.size, 3, none⟩ = some (.int .i64 x.mid) := y3
            have q0 : (wr.drewN nq).cell? ⟨ba, o + i * 4, none⟩ = some (.int .i64 yt) := q0
            clear hown hB q1 q2 q3 hle
            generalize wr.drewN nq = W1 at *
            go_wp2_with (at_builtin; refine wpList_append_own _ rfl _ _ 52 rfl w0.heap.size 67 i0 (.agg #[.int .i64 0, .int .i64 0, .int .i64 0, .int .i64 0]) 4 32 Tryz.underE hi hz0 hz1 hz2 rfl (by decide) _ _ _ rfl (own1.alloc _) ⟨W1.heap.size, 0, none⟩ 1 1 [.int .i64 xt, .int .i64 x.s, .int .i64 x.d, .int .i64 x.mid] rfl rfl (cell_four_new _ _ _ _ _ _) (by intro u hu; simp at hu; rcases hu with rfl | rfl | rfl | rfl <;> rfl) ?c3 ?c4 ?c5 ?_)
            case c3 => unfold maxLen; omega
            case c4 => have := B1.size; omega
            case c5 => have := B1.size; simp; omega
            intro vW2 W2 hownW2 hgrowW2 _
            have hbaseW2 := fun q hq => (own1.lt q hq).1
            have BW2 : Below w0.heap.size w0 W2 := (B1.alloc B1.size _).grown hgrowW2 (by simp; have := B1.size; omega) hbaseW2
            have OW2 : W2.ownsRow w0.heap.size 67 4 vW2 (F ++ [x]).length (lesV (F ++ [x])) := by
              rw [lesV_app, lesV_one, HXV.out]
              simpa using hownW2
            have hlenW2 : (F ++ [x]).length ≤ 1000 := by rw [List.length_append]; show _ + 1 ≤ _; omega
            clear hownW2 hgrowW2 hbaseW2 own1 B1 q0 y0 y1 y2 y3
            have q0 := (BW2.cell (p := ⟨ba, o + i * 4, none⟩) HQ.out.1).trans HQ.out.2.1
            have q1 := (BW2.cell (p := ⟨ba, o + i * 4 + 1, none⟩) HQ.out.1).trans HQ.out.2.2.1
            have q2 := (BW2.cell (p := ⟨ba, o + i * 4 + 2, none⟩) HQ.out.1).trans HQ.out.2.2.2.1
            have q3 := (BW2.cell (p := ⟨ba, o + i * 4 + 3, none⟩) HQ.out.1).trans HQ.out.2.2.2.2
            have y0 := (BW2.cell (World.block_lt_of_cell? _ _ x0)).trans x0
            go_wp2_with fail
            go_quiet (fail)
            have own3 := own_below OW2 (w' := W2.drewN nq) (below_drewN (Below.refl _ _) _)
            have BW3 : Below w0.heap.size w0 (W2.drewN nq) := below_drewN BW2 _
            have q0 : (W2.drewN nq).cell? ⟨ba, o + i * 4, none⟩ = some (.int .i64 yt) := q0
            have q1 : (W2.drewN nq).cell? ⟨ba, o + i * 4 + 1, none⟩ = some (.int .i64 y.s) := q1
            have q2 : (W2.drewN nq).cell? ⟨ba, o + i * 4 + 2, none⟩ = some (.int .i64 y.d) := q2
            have q3 : (W2.drewN nq).cell? ⟨ba, o + i * 4 + 3, none⟩ = some (.int .i64 y.mid) := q3
            clear OW2 BW2 y0 hne
            generalize W2.drewN nq = W3 at *
            have HF1 : Hid ((F ++ [x]).length ≤ 2 * i + 1) := by unfold Hid; rw [List.length_append]; show _ + 1 ≤ _; omega
            generalize F ++ [x] = F1 at *
            have hF1 : F1.length ≤ 2 * i + 1 := HF1.out
            go_wp2_with (at_builtin; refine wpList_append_own _ rfl _ _ 52 rfl w0.heap.size 67 i0 (.agg #[.int .i64 0, .int .i64 0, .int .i64 0, .int .i64 0]) 4 32 Tryz.underE hi hz0 hz1 hz2 rfl (by decide) _ _ _ rfl (own3.alloc _) ⟨W3.heap.size, 0, none⟩ 1 1 [.int .i64 yt, .int .i64 y.s, .int .i64 y.d, .int .i64 y.mid] rfl rfl (cell_four_new _ _ _ _ _ _) (by intro u hu; simp at hu; rcases hu with rfl | rfl | rfl | rfl <;> rfl) ?c3 ?c4 ?c5 ?_)
            case c3 => unfold maxLen; omega
            case c4 => have := BW3.size; omega
            case c5 => have := BW3.size; simp; omega
            intro vW4 W4 hownW4 hgrowW4 _
            have hbaseW4 := fun q hq => (own3.lt q hq).1
            have BW4 : Below w0.heap.size w0 W4 := (BW3.alloc BW3.size _).grown hgrowW4 (by simp; have := BW3.size; omega) hbaseW4
            have OW4 : W4.ownsRow w0.heap.size 67 4 vW4 (F1 ++ [y]).length (lesV (F1 ++ [y])) := by
              rw [lesV_app, lesV_one, HYV.out]
              simpa using hownW4
            have hlenW4 : (F1 ++ [y]).length ≤ 1000 := by rw [List.length_append]; show _ + 1 ≤ _; omega
            clear hownW4 hgrowW4 hbaseW4 own3 BW3 q0 q1 q2 q3
            go_wp2
            go_roundw
            case rel => exact ⟨i + 1, true, _, by omega, by go_num, rfl, HN.out, by simp; omega, OW4, BW4⟩
            case measure => simp [intOf]; omega
        · have HN : Hid (LayI x l (i + 1) false (F ++ [y])) := HI.out.low hy (by omega)
          have hle : decide (xt ≤ yt) = false := decide_eq_false (fun h => hc (HC1.out.2 h))
          have hne : (yt != xt) = true := bne_iff_ne.2 (fun e => by have := HXZ.out; have := HYZ.out; omega)
          clear HI hy hc
          go_wp2_with fail
          go_quiet (fail)
          have own1 := own_below hown (w' := wr.drewN nq) (below_drewN (Below.refl _ _) _)
          have B1 : Below w0.heap.size w0 (wr.drewN nq) := below_drewN hB _
          have q0 : (wr.drewN nq).cell? ⟨ba, o + i * 4, none⟩ = some (.int .i64 yt) := q0
          have q1 : (wr.drewN nq).cell? ⟨ba, o + i * 4 + 1, none⟩ = some (.int .i64 y.s) := q1
          have q2 : (wr.drewN nq).cell? ⟨ba, o + i * 4 + 2, none⟩ = some (.int .i64 y.d) := q2
          have q3 : (wr.drewN nq).cell? ⟨ba, o + i * 4 + 3, none⟩ = some (.int .i64 y.mid) := q3
          have y0 : (wr.drewN nq).cell? ⟨w.heap.size, 0, none⟩ = some (.int .i64 xt) := y0
          clear hown hB y1 y2 y3 hle
          generalize wr.drewN nq = W1 at *
          go_wp2_with fail
          go_quiet (fail)
          have own2 := own_below own1 (w' := W1.drewN nq) (below_drewN (Below.refl _ _) _)
          have B2 : Below w0.heap.size w0 (W1.drewN nq) := below_drewN B1 _
          have q0 : (W1.drewN nq).cell? ⟨ba, o + i * 4, none⟩ = some (.int .i64 yt) := q0
          have q1 : (W1.drewN nq).cell? ⟨ba, o + i * 4 + 1, none⟩ = some (.int .i64 y.s) := q1
          have q2 : (W1.drewN nq).cell? ⟨ba, o + i * 4 + 2, none⟩ = some (.int .i64 y.d) := q2
          have q3 : (W1.drewN nq).cell? ⟨ba, o + i * 4 + 3, none⟩ = some (.int .i64 y.mid) := q3
          clear own1 B1 y0 hne
          generalize W1.drewN nq = W2 at *
          go_wp2_with (at_builtin; refine wpList_append_own _ rfl _ _ 52 rfl w0.heap.size 67 i0 (.agg #[.int .i64 0, .int .i64 0, .int .i64 0, .int .i64 0]) 4 32 Tryz.underE hi hz0 hz1 hz2 rfl (by decide) _ _ _ rfl (own2.alloc _) ⟨W2.heap.size, 0, none⟩ 1 1 [.int .i64 yt, .int .i64 y.s, .int .i64 y.d, .int .i64 y.mid] rfl rfl (cell_four_new _ _ _ _ _ _) (by intro u hu; simp at hu; rcases hu with rfl | rfl | rfl | rfl <;> rfl) ?c3 ?c4 ?c5 ?_)
          case c3 => unfold maxLen; omega
          case c4 => have := B2.size; omega
          case c5 => have := B2.size; simp; omega
          intro vW4 W4 hownW4 hgrowW4 _
          have hbaseW4 := fun q hq => (own2.lt q hq).1
          have BW4 : Below w0.heap.size w0 W4 := (B2.alloc B2.size _).grown hgrowW4 (by simp; have := B2.size; omega) hbaseW4
          have OW4 : W4.ownsRow w0.heap.size 67 4 vW4 (F ++ [y]).length (lesV (F ++ [y])) := by
            rw [lesV_app, lesV_one, HYV.out]
            simpa using hownW4
          have hlenW4 : (F ++ [y]).length ≤ 1000 := by rw [List.length_append]; show _ + 1 ≤ _; omega
          clear hownW4 hgrowW4 hbaseW4 own2 B2 q0 q1 q2 q3
          go_wp2
          go_roundw
          case rel => exact ⟨i + 1, false, _, by omega, by go_num, rfl, HN.out, by simp; omega, OW4, BW4⟩
          case measure => simp [intOf]; omega
    · have ei : i = l.length := by omega
      subst ei
      obtain ⟨hf1, hf2⟩ := HI.out.fin
      have HF1 : Hid (b = true → F = layF x l) := hf1
      have HF2 : Hid (b = false → F ++ [x] = layF x l) := hf2
      have hwz : w.heap.size ≤ w0.heap.size := HZ.out
      clear kx hf1 hf2 HI
      cases b with
      | true =>
        have e := HF1.out rfl
        subst e
        clear HF1 HF2 y0 y1 y2 y3
        go_wp2
        go_ret
        exact ⟨_, rfl, own_base hown hwz, b0.trans (hB.mono hwz)⟩
      | false =>
        have e := HF2.out rfl
        clear HF1 HF2
        go_wp2_with (at_builtin; refine wpList_append_own _ rfl _ _ 52 rfl w0.heap.size 67 i0 (.agg #[.int .i64 0, .int .i64 0, .int .i64 0, .int .i64 0]) 4 32 Tryz.underE hi hz0 hz1 hz2 rfl (by decide) _ _ _ rfl (hown.alloc _) ⟨wr.heap.size, 0, none⟩ 1 1 [.int .i64 xt, .int .i64 x.s, .int .i64 x.d, .int .i64 x.mid] rfl rfl (cell_four_new _ _ _ _ _ _) (by intro u hu; simp at hu; rcases hu with rfl | rfl | rfl | rfl <;> rfl) ?c3 ?c4 ?c5 ?_)
        case c3 => unfold maxLen; omega
        case c4 => have := hB.size; omega
        case c5 => have := hB.size; simp; omega
        intro vW4 W4 hownW4 hgrowW4 _
        have hbaseW4 := fun q hq => (hown.lt q hq).1
        have BW4 : Below w0.heap.size w0 W4 := (hB.alloc hB.size _).grown hgrowW4 (by simp; have := hB.size; omega) hbaseW4
        have OW4 : W4.ownsRow w0.heap.size 67 4 vW4 (F ++ [x]).length (lesV (F ++ [x])) := by
          rw [lesV_app, lesV_one, HXV.out]
          simpa using hownW4
        have hlenW4 : (F ++ [x]).length ≤ 1000 := by rw [List.length_append]; show _ + 1 ≤ _; omega
        clear hownW4 hgrowW4 hbaseW4 hown hB y0 y1 y2 y3
        rw [e] at OW4
        clear e hlenW4
        go_wp2
        go_ret
        exact ⟨_, rfl, own_base OW4 hwz, b0.trans (BW4.mono hwz)⟩
end Go.Proofs.YtmnpplkjhnoglaaGreatDoor
/-
  The reference's levels as they lie in memory; the edges over which it looks for other ways. (For LevelsSays.)
-/
namespace Go.Proofs.YtmnpplkjhnoglaaGreatDoor
open Go.RowKit

/-- a map with keys from 0 to 255, as a function -/
structure MapK (w : World) (b : Nat) (f : Int → Option Value) : Prop where
  mp : MapF Tryz.prog 3 w b f (cntS (keyB f) 256)
  bd : ∀ i, keyB f i = true → 0 ≤ i ∧ i < 256
section
variable {w w' : World} {b : Nat} {f : Int → Option Value} {t e : TypeId} {a : Int}
theorem MapK.keep {F : Nat → Prop} (h : MapK w b f) (K : Keep F w w') (hn : ¬ F b) : MapK w' b f := ⟨h.mp.keep K hn, h.bd⟩
theorem MapK.below (h : MapK w b f) (hb : Below w.heap.size w w') : MapK w' b f := h.keep (F := fun _ => False) (Keep.of_below hb) id
theorem MapK.lt (h : MapK w b f) : b < w.heap.size := h.mp.lt
theorem MapK.made (w : World) : MapK (w.alloc (.map #[] 0)) w.heap.size (fun _ => none) := by
  refine ⟨?_, fun i hi => by cases hi⟩
  rw [cntS_empty]
  exact MapF.made w Tryz.prog 3
theorem MapK.store (h : MapK w b f) (ht : Tryz.prog.underlying t = some (.map 3 e)) (h0 : 0 ≤ a) (h1 : a < 256) (v : Value) :
    ∃ w1, (Instr.mapUpdate t (.map (some b)) (.int .i64 a) v).run Tryz.prog w = .ok () w1 ∧ Keep (fun k => k = b) w w1 ∧ MapK w1 b (putF f a v) := by
  have hc := cntS_le (keyB f) 256
  obtain ⟨w1, hrun, hm, htn⟩ := h.mp.store law3 ht (by unfold maxLen; omega) (wf_small h0 (by omega)) v
  refine ⟨w1, hrun, turned_keep htn, ?_, fun i hi => ?_⟩
  · rw [keyB_put]
    cases hs : keyB f a with
    | true => rw [insS_same hs]; have e : (f a).isSome = true := hs; rw [e] at hm; exact hm
    | false => rw [cntS_put (keyB f) a 256 h0 h1 hs]; have e : (f a).isSome = false := hs; rw [e] at hm; exact hm
  · rw [keyB_put] at hi
    rcases (insS_iff _ _ _).1 hi with rfl | hi
    · exact ⟨h0, h1⟩
    · exact h.bd i hi
end
/-- what the reference's map of levels holds: levels alone that were given -/
def lzF (L : List Nat) (lev : Nat → Nat) : Int → Option Value := fun i => if 0 ≤ i ∧ i.toNat ∈ L ∧ 0 < lev i.toNat then some (.int .i64 (lev i.toNat : Int)) else none
theorem lzF_put {L : List Nat} {lev : Nat → Nat} {n t : Nat} (h : n ∈ L) (ht : 0 < t) : putF (lzF L lev) (n : Int) (.int .i64 (t : Int)) = lzF L (fun k => if k = n then t else lev k) := by
  funext i
  unfold putF lzF
  by_cases e : i = (n : Int)
  · subst e
    rw [if_pos rfl, if_pos]
    · show _ = some (Value.int .i64 ((if (n : Int).toNat = n then t else lev (n : Int).toNat : Nat) : Int))
      rw [Int.toNat_natCast, if_pos rfl]
    · refine ⟨by omega, by rw [Int.toNat_natCast]; exact h, ?_⟩
      rw [Int.toNat_natCast]
      show 0 < (if n = n then t else lev n)
      rw [if_pos rfl]
      exact ht
  · rw [if_neg e]
    by_cases hi : 0 ≤ i
    · have hne : i.toNat ≠ n := by omega
      show _ = if 0 ≤ i ∧ i.toNat ∈ L ∧ 0 < (if i.toNat = n then t else lev i.toNat) then some (Value.int .i64 ((if i.toNat = n then t else lev i.toNat : Nat) : Int)) else none
      rw [if_neg hne]
    · rw [if_neg (fun q => hi q.1), if_neg (fun q => hi q.1)]
/-- the reference's levels in block lb: the levels in the map vb, the edges in the map eb -/
structure RLv (w : World) (lb vb eb top : Nat) (L : List Nat) (st : LSt) (f : Int → Option Value) : Prop where
  c0 : w.cell? ⟨lb, 0, none⟩ = some (.map (some vb))
  c1 : w.cell? ⟨lb, 1, none⟩ = some (.map (some eb))
  c2 : w.cell? ⟨lb, 2, none⟩ = some (.int .i64 (top : Int))
  fz : w.frozen? ⟨lb, 2, none⟩ = false
  lv : MapK w vb (lzF L st.lev)
  em : MapK w eb f
  yes : ∀ n ∈ L, ∃ A cap, f (n : Int) = some (.slice A (st.es n).length cap) ∧ RowL w A (st.es n)
  no : ∀ c : Int, ¬ (0 ≤ c ∧ c.toNat ∈ L) → f c = none
  ne : vb ≠ eb
  bd : ∀ n ∈ L, n < 256
section
variable {w w' : World} {lb vb eb top : Nat} {L : List Nat} {st : LSt} {f : Int → Option Value}
theorem RLv.below (G : RLv w lb vb eb top L st f) (hb : Below w.heap.size w w') : RLv w' lb vb eb top L st f :=
  ⟨(hb.cell (World.block_lt_of_cell? _ _ G.c0)).trans G.c0, (hb.cell (World.block_lt_of_cell? _ _ G.c1)).trans G.c1, (hb.cell (World.block_lt_of_cell? _ _ G.c2)).trans G.c2, (hb.frozen (p := ⟨lb, 2, none⟩) (World.block_lt_of_cell? _ _ G.c2)).trans G.fz, G.lv.below hb, G.em.below hb, fun n hn => by
    obtain ⟨A, cap, h1, h2⟩ := G.yes n hn
    exact ⟨A, cap, h1, h2.below hb⟩, G.no, G.ne, G.bd⟩
theorem RLv.lts (G : RLv w lb vb eb top L st f) : lb < w.heap.size ∧ vb < w.heap.size ∧ eb < w.heap.size := ⟨World.block_lt_of_cell? _ _ G.c0, G.lv.lt, G.em.lt⟩
theorem RLv.nes (G : RLv w lb vb eb top L st f) : lb ≠ vb ∧ lb ≠ eb := by
  constructor
  · intro e
    have h := G.lv.mp.cell 0
    rw [← e, G.c0] at h; cases h
  · intro e
    have h := G.em.mp.cell 0
    rw [← e, G.c0] at h; cases h
/-- where no block of the levels' own is written they stay; edges that can be read lie in no map -/
theorem RLv.keep {F : Nat → Prop} (G : RLv w lb vb eb top L st f) (K : Keep F w w') (h1 : ¬ F lb) (h2 : ¬ F vb) (h3 : ¬ F eb) (h4 : ∀ n ∈ L, ∀ A cap, f (n : Int) = some (.slice A (st.es n).length cap) → ∀ b o, A = some ⟨b, o, none⟩ → 0 < (st.es n).length → ¬ F b) : RLv w' lb vb eb top L st f :=
  ⟨K.cellOf G.c0 h1, K.cellOf G.c1 h1, K.cellOf G.c2 h1, (K.frozen (p := ⟨lb, 2, none⟩) G.lts.1 h1).trans G.fz, G.lv.keep K h2, G.em.keep K h3, fun n hn => by
    obtain ⟨A, cap, e1, e2⟩ := G.yes n hn
    refine ⟨A, cap, e1, fun i e hi => ?_⟩
    have hl : 0 < (st.es n).length := Nat.lt_of_le_of_lt (Nat.zero_le i) (List.getElem?_eq_some_iff.1 hi).1
    obtain ⟨b, o, e0, k1, k2, k3, k4⟩ := e2 i e hi
    have hn' := h4 n hn A cap e1 b o e0 hl
    exact ⟨b, o, e0, K.cellOf k1 hn', K.cellOf k2 hn', K.cellOf k3 hn', K.cellOf k4 hn'⟩, G.no, G.ne, G.bd⟩
theorem RLv.off (G : RLv w lb vb eb top L st f) {m : Nat} (hm : ∀ o, w.cell? ⟨m, o, none⟩ = none) : ∀ n ∈ L, ∀ A cap, f (n : Int) = some (.slice A (st.es n).length cap) → ∀ b o, A = some ⟨b, o, none⟩ → 0 < (st.es n).length → ¬ b = m := fun n hn A cap h b o hA hl e => by
  obtain ⟨A', cap', e1, e2⟩ := G.yes n hn
  rw [h] at e1
  cases e1
  obtain ⟨b', o', e0, k1, _⟩ := e2 0 _ (List.getElem?_eq_getElem hl)
  rw [hA] at e0
  cases e0
  rw [e, hm] at k1
  cases k1
theorem RLv.look (G : RLv w lb vb eb top L st f) {n : Nat} (hn : n ∈ L) : (Instr.lookup 46 (.map (some vb)) (.int .i64 (n : Int)) false).run Tryz.prog w = .ok (.int .i64 (st.lev n : Int)) w := by
  have hw := wf_small (a := (n : Int)) (by omega) (by have := G.bd n hn; omega)
  by_cases h : 0 < st.lev n
  · exact G.lv.mp.look_some law3 Tryz.underV (zero3 w) hw (by unfold lzF; rw [Int.toNat_natCast, if_pos ⟨by omega, hn, h⟩]) false
  · have h0 : st.lev n = 0 := by omega
    rw [h0]
    exact G.lv.mp.look_none law3 Tryz.underV (zero3 w) hw (by unfold lzF; rw [Int.toNat_natCast, if_neg (fun q => h q.2.2)]) false
theorem RLv.edges (G : RLv w lb vb eb top L st f) {n : Nat} (hn : n ∈ L) : ∃ A cap, (Instr.lookup 47 (.map (some eb)) (.int .i64 (n : Int)) false).run Tryz.prog w = .ok (.slice A (st.es n).length cap) w ∧ RowL w A (st.es n) ∧ f (n : Int) = some (.slice A (st.es n).length cap) := by
  obtain ⟨A, cap, e1, e2⟩ := G.yes n hn
  exact ⟨A, cap, G.em.mp.look_some law3 Tryz.underM (zeroM w) (wf_small (by omega) (by have := G.bd n hn; omega)) e1 false, e2, e1⟩
end
/-- the edges over which other ways are looked for -/
def apE (st : LSt) (n : Nat) : Nat → List LE := fun a => (st.es a).filter (fun e => decide (st.lev e.to = 0 ∧ e.to ≠ n))
theorem apE_mem {st : LSt} {n a : Nat} {e : LE} : e ∈ apE st n a ↔ e ∈ st.es a ∧ st.lev e.to = 0 ∧ e.to ≠ n := by
  unfold apE
  rw [List.mem_filter, decide_eq_true_eq]
theorem apE_ed (st : LSt) (n : Nat) (a b t u : Int) : GrE (apE st n) a b t u ↔ EdR st n a b t u := by
  constructor
  · rintro ⟨e, h1, h2, h3, h4⟩
    obtain ⟨k1, k2, k3⟩ := apE_mem.1 h1
    exact ⟨e, k1, h2, h3, h4, k2, k3⟩
  · rintro ⟨e, h1, h2, h3, h4, k2, k3⟩
    exact ⟨e, apE_mem.2 ⟨h1, k2, k3⟩, h2, h3, h4⟩
theorem apE_ok {L : List Nat} {st : LSt} (O : Okl L 512 st) (hb : ∀ n ∈ L, n < 256) (n : Nat) : EsOk L (apE st n) :=
  ⟨fun he => O.cor.ends (apE_mem.1 he).1, fun he => O.bd (apE_mem.1 he).1, hb⟩
/-- labels from o that cannot be lowered -/
structure Apt (L : List Nat) (st : LSt) (n o : Nat) (B : Int → Option (Int × Int)) : Prop where
  rb : RB L (apE st n) [⟨(o : Int), 0, 0, 0⟩] B
  rl : ∀ x ∈ L, Rlxd (apE st n) B x
theorem Apt.need {L : List Nat} {st : LSt} {n : Nat} {a b : LE} {B : Int → Option (Int × Int)} (h : Apt L st n a.to B) (ha : a.to ∈ L) :
    Need st n a b ↔ pushB B (b.to : Int) (a.s + b.s) (a.d + b.d) = true := by
  have hsrc : srcE L [⟨(a.to : Int), 0, 0, 0⟩] (a.to : Int) 0 0 := ⟨_, List.mem_singleton.2 rfl, ⟨⟨by show (0 : Int) ≤ (a.to : Int); omega, by show ((a.to : Int)).toNat ∈ L; rw [Int.toNat_natCast]; exact ha⟩, Int.le_refl 0, (by show (0 : Int) ≤ 1048576; decide), Int.le_refl 0, (by show (0 : Int) ≤ 1048576; decide)⟩, rfl, rfl, rfl⟩
  have z : val 0 0 = 0 := by decide
  rw [pushB_iff]
  constructor
  · intro hN s d hB
    obtain ⟨o', s0, d0, p, q, ⟨e', k1, _, rfl, rfl, rfl⟩, k2, k3, k4⟩ := h.rb.snd hB
    rw [List.mem_singleton.1 k1] at k2 k3 k4
    have hs : s = p := by simpa using k3
    have hd : d = q := by simpa using k4
    subst hs hd
    have hw : Wg (EdR st n) (a.to : Int) (b.to : Int) s d := k2.mono (fun a b t u h => (apE_ed st n a b t u).1 h)
    by_cases hle : val s d ≤ val (a.s + b.s) (a.d + b.d)
    · exact absurd ⟨s, d, hw, hle⟩ hN
    · omega
  · rintro hlt ⟨p, q, hw, hle⟩
    obtain ⟨s, d, k1, k2⟩ := h.rb.least h.rl hsrc (hw.mono (fun a b t u h => (apE_ed st n a b t u).2 h))
    have := hlt s d k1
    omega
end Go.Proofs.YtmnpplkjhnoglaaGreatDoor
/-
  The reference's 'edgeTo' and 'Unpack'. (For LevelsSays.)
-/
namespace Go.Proofs.YtmnpplkjhnoglaaGreatDoor
open Go.RowKit

set_option maxHeartbeats 2000000 in
theorem redge_yes {cap ps : Nat} {A : Option Addr} {l : List LE} {e : LE} (w : World) (hrow : RowL w A l) (hR : Rsg l) (hl : l.length ≤ 256) (hp : l[ps]? = some e) :
    Calls Tryz.prog 93 #[.slice A l.length cap, .int .i64 (e.to : Int)] w fun r w' => r = .returned (.int .i64 (ps : Int)) ∧ w' = w := by
  have hpl : ps < l.length := (List.getElem?_eq_some_iff.1 hp).1
  have HP : Hid (l[ps]? = some e) := hp
  have HR : Hid (Rsg l) := hR
  clear hp hR
  go_enter Tryz.func93, Tryz.ntmps93
  go_wp2
  go_loopw [5] (fun iv wr => ∃ k : Nat, k ≤ ps ∧ iv = .int .i64 k ∧ wr = w) (fun i _ => l.length - (intOf i).toNat)
  case atStart => exact ⟨0, Nat.zero_le _, rfl, rfl⟩
  case round =>
    obtain ⟨k, hk, rfl, rfl⟩ := hrel
    obtain ⟨e', he'⟩ : ∃ e', l[k]? = some e' := ⟨l[k], List.getElem?_eq_getElem (by omega)⟩
    obtain ⟨b, o, rfl, q0, _⟩ := hrow k e' he'
    have i1 : (0 : Int) ≤ (k : Int) := by omega
    have i2 : (k : Int) < (l.length : Int) := by omega
    by_cases ek : k = ps
    · subst ek
      have ee : e' = e := by
        have := HP.out
        rw [he'] at this
        exact Option.some.inj this
      subst ee
      clear he'
      go_wp2
      go_ret
      exact ⟨rfl, rfl⟩
    · have hne : ((e'.to : Int) == (e.to : Int)) = false := beq_eq_false_iff_ne.2 (fun q => ek (HR.out.at he' HP.out (by omega)))
      clear he'
      generalize (e'.to : Int) = et at *
      generalize (e.to : Int) = et2 at *
      go_wp2
      go_roundw
      case rel => exact ⟨k + 1, by omega, by go_num, trivial⟩
      case measure => simp [intOf]; omega
set_option maxHeartbeats 8000000 in
set_option maxRecDepth 1000000 in
theorem runpack_yes {lb vb eb top : Nat} {L : List Nat} {st : LSt} {f : Int → Option Value} (hR : ∀ a, Rsg (st.es a)) (hC : ∀ {a e}, e ∈ st.es a → a ∈ L ∧ e.to ∈ L) (hl : ∀ a, (st.es a).length ≤ 256) (hLb : ∀ n ∈ L, n < 256) : ∀ (F a b : Nat) (way : List Nat) (w : World), F ≤ 7 → Unp st.es F a b way → RLv w lb vb eb top L st f →
    Calls Tryz.prog 57 #[.pointer (some ⟨lb, 0, none⟩), .int .i64 (a : Int), .int .i64 (b : Int)] w fun e w' => ∃ v, e = .returned v ∧ w'.ownsRow w.heap.size 3 1 v way.length (vals way) ∧ Below w.heap.size w w'
  | 0, _, _, _, _, _, hu, _ => hu.elim
  | F + 1, a, b, way, w, hF, hu, V => by
    obtain ⟨i3, hi3, hy0, hy1, hy2⟩ := info_parts Tryz.info3
    obtain ⟨e, he, het, hcase⟩ := hu
    subst het
    have haL := (hC he).1
    have hwa := wf_small (a := (a : Int)) (by omega) (by have := hLb a haL; omega)
    obtain ⟨A, cap, hl1, row1, hf1⟩ := V.edges haL
    have c1 := V.c1
    obtain ⟨ps, hp⟩ : ∃ ps, (st.es a)[ps]? = some e := List.getElem?_of_mem he
    have hed := redge_yes (cap := cap) w row1 (hR a) (hl a) hp
    have hps : ps < (st.es a).length := (List.getElem?_eq_some_iff.1 hp).1
    obtain ⟨bb, o, rfl, q1, q2, q3, q4⟩ := row1 ps e hp
    have p1 : (0 : Int) ≤ (ps : Int) := by omega
    have p2 : (ps : Int) < ((st.es a).length : Int) := by omega
    clear row1 hp hf1 he
    go_enter Tryz.func57, Tryz.ntmps57
    go_wp2_with fail
    refine hed.mono ?_
    rintro r w1 ⟨rfl, hw1⟩
    replace hw1 := hw1.symm
    subst hw1
    rcases hcase with ⟨hm, rfl⟩ | ⟨hm, y1, y2, u1, u2, rfl⟩
    · have hd : decide (e.mid < 0) = true := decide_eq_true hm
      clear hed
      go_wp2
      go_ret
      refine ⟨_, rfl, ?_, (Below.refl _ _).alloc (Nat.le_refl _) _⟩
      have := World.ownsRow_lit (base := w.heap.size) (e := 3) (size := 1) w #[.int .i64 (a : Int), .int .i64 (e.to : Int)] 2 (Nat.le_refl _) (by unfold maxLen; omega) rfl
      exact this
    · obtain ⟨mn, hmn⟩ : ∃ mn : Nat, e.mid = (mn : Int) := ⟨e.mid.toNat, by omega⟩
      have hmt : e.mid.toNat = mn := by omega
      rw [hmt] at u1 u2
      rw [hmn] at q4
      have hd : decide ((mn : Int) < 0) = false := decide_eq_false (by omega)
      have k1 := u1.two
      have k2 := u2.two
      have hF2 : 2 ^ F ≤ 64 := by
        have := Nat.pow_le_pow_right (show 0 < 2 by decide) (show F ≤ 6 by omega)
        simpa using this
      have hu1 := runpack_yes hR hC hl hLb F a mn y1 w (by omega) u1 V
      clear hed hmn hmt hm
      go_wp2_with fail
      refine hu1.mono ?_
      rintro r w4 ⟨v4, rfl, own4, hb4⟩
      have V4 := V.below hb4
      have hu2 := runpack_yes hR hC hl hLb F mn e.to y2 w4 (by omega) u2 V4
      clear hu1 V4
      go_wp2_with fail
      refine hu2.mono ?_
      rintro r w5 ⟨v5, rfl, own5, hb5⟩
      have B5 := hb4.trans (hb5.mono hb4.size)
      have own45 := own_below own4 hb5
      obtain ⟨g5, cap5, rfl, r5, hg5, hg5', hc5, hc5'⟩ := rowN_of own5 (by omega)
      have src := r5.tail
      have hcap : ¬ cap5 = 1 := by omega
      have hy2' : (1 : Int) ≤ (y2.length : Int) := by omega
      have hl1' : y1.length ≤ 300 := by omega
      have hl2 : y2.length ≤ 300 := by omega
      have hl2' : 2 ≤ y2.length := by omega
      have htl : Hid (y2.length - 1 = y2.tail.length) := by unfold Hid; rw [List.length_tail]
      have z := B5.size
      clear hu2 own4 own5 hb4 hb5 r5 k1 k2 hF2 hl1 c1
      go_wp2_with (at_builtin; refine wpList_append_own _ rfl _ _ 22 rfl w.heap.size 3 i3 (.int .i64 0) 1 8 Tryz.underlying22 hi3 hy0 hy1 hy2 rfl (by decide) _ _ _ rfl own45 ⟨g5, 1, none⟩ (y2.length - 1) (cap5 - 1) (vals y2.tail) rfl ?c0 src (vals_one _) ?c3 ?c4 ?c5 ?_)
      case c0 => rw [vals_len, List.length_tail]; omega
      case c3 => unfold maxLen; omega
      case c4 => omega
      case c5 => exact z
      intro v' w6 hown' hgrow _
      have B6 : Below w.heap.size w w6 := B5.grown hgrow z (fun q hq => (own45.lt q hq).1)
      have O6 : w6.ownsRow w.heap.size 3 1 v' (y1 ++ y2.tail).length (vals (y1 ++ y2.tail)) := by
        have et : vals y2.tail = (List.map (fun d : Nat => Value.int .i64 (d : Int)) y2).tail := by unfold vals; rw [List.map_tail]
        rw [vals_app, List.length_append, List.length_tail, et]
        exact hown'
      clear hown' hgrow own45 B5 src
      go_wp2
      go_ret
      exact ⟨_, rfl, O6, B6⟩
end Go.Proofs.YtmnpplkjhnoglaaGreatDoor
