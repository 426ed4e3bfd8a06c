/-
  Texts laid together: NearM, Labs, ROct, Ray.
-/
import Derived.Test.YtfhicijgpdpfpaaDoorP16
import Derived.Deep.RegionHeld3
/-
  What is near, and the way: the mathematics of 'TopNear'.
-/
namespace Go.Proofs.YtfhicijgpdpfpaaDoor
open Go.RowKit

variable {W H : Int} {bl : Nat → Bool}
theorem On.sym {a b k : Int} (h : On W H bl a b k) : On W H bl b a k := ⟨h.2, h.1⟩
theorem near_iff {a b : Int} {F : Int → Option (Int × Int)} (w1 : 1 ≤ W) (hS : octS W a b ≤ 1000) (hD : octD W a b ≤ 1000) (BA : Best (Edge W H bl) a F) : (∃ z, On W H bl a b z) ↔ F b = some (octS W a b, octD W a b) := by
  constructor
  · rintro ⟨z, h⟩
    exact best_oct w1 BA (h.ends w1 hS hD).2.2
  · intro h
    exact ⟨b, On.of_near w1 hS hD (BA.sound h)⟩
theorem On.near_a {a b k : Int} (w1 : 1 ≤ W) (hS : octS W a b ≤ 1000) (hD : octD W a b ≤ 1000) (kS : octS W a k ≤ 1000) (kD : octD W a k ≤ 1000) (h : On W H bl a b k) : ∃ z, On W H bl a k z :=
  ⟨k, On.of_near w1 kS kD (h.walks w1 hS hD).1⟩
theorem On.near_b {a b k : Int} (w1 : 1 ≤ W) (hS : octS W a b ≤ 1000) (hD : octD W a b ≤ 1000) (kS : octS W k b ≤ 1000) (kD : octD W k b ≤ 1000) (h : On W H bl a b k) : ∃ z, On W H bl k b z := by
  have := (h.walks w1 hS hD).2.1.back (Edge.back w1)
  rw [octS_comm W b k, octD_comm W b k] at this
  exact ⟨b, On.of_near w1 kS kD this⟩
theorem On.free {a b k : Int} (w1 : 1 ≤ W) (hS : octS W a b ≤ 1000) (hD : octD W a b ≤ 1000) (ha : bl a.toNat = false) (h : On W H bl a b k) : bl k.toNat = false := wk_free ha (h.walks w1 hS hD).1

theorem chn_at {P : Int → Int → Prop} {t : Int} : ∀ {l : List Nat} {a : Nat}, Chn P a (ints l) t → (∀ i, i < l.length → P (((a :: l).getD i 0 : Nat) : Int) (((a :: l).getD (i + 1) 0 : Nat) : Int)) ∧ (((a :: l).getD l.length 0 : Nat) : Int) = t
  | [], a, h => ⟨fun i hi => absurd hi (Nat.not_lt_zero i), h⟩
  | n :: l, a, ⟨h1, h2⟩ => by
    obtain ⟨q1, q2⟩ := chn_at h2
    refine ⟨fun i hi => ?_, q2⟩
    cases i with
    | zero => exact h1
    | succ i => exact q1 i (by simpa using hi)

theorem ffv_zero {c : Int} (h1 : inB W H c = true) (h2 : bl c.toNat = false) : ffv W H bl c = 0 := by unfold ffv; rw [h1, h2]; rfl

/-- a way's cells are on, and what it costs so far is what is no longer left -/
theorem way_cost {a : Nat} {t : Int} {l : List Nat} (w1 : 1 ≤ W) (hS : octS W a t ≤ 1000) (hD : octD W a t ≤ 1000) (ha : inB W H a = true) (hfa : bl a = false) (hon : On W H bl a t a) (h : Chn (WSt W H bl a t) a (ints l) t) :
    (∀ i, i < (a :: l).length → On W H bl a t (((a :: l).getD i 0 : Nat) : Int) ∧ inB W H (((a :: l).getD i 0 : Nat) : Int) = true) ∧ wkV W H bl (fun i => (((a :: l).getD i 0 : Nat) : Int)) (a :: l).length = ((octS W a t, octD W a t), 0) := by
  obtain ⟨c1, c2⟩ := chn_at h
  have key : ∀ i, i < (a :: l).length → On W H bl a t (((a :: l).getD i 0 : Nat) : Int) ∧ inB W H (((a :: l).getD i 0 : Nat) : Int) = true ∧ wkS W H bl (fun i => (((a :: l).getD i 0 : Nat) : Int)) (i + 1) = .ok (octS W a t - octS W (((a :: l).getD i 0 : Nat) : Int) t, octD W a t - octD W (((a :: l).getD i 0 : Nat) : Int) t) := by
    intro i
    induction i with
    | zero =>
      intro _
      refine ⟨hon, ha, ?_⟩
      have e : wkS W H bl (fun i => (((a :: l).getD i 0 : Nat) : Int)) 0 = .ok (0, 0) := rfl
      rw [wkS_next e]
      unfold wk1
      have hz : ffv W H bl (((a :: l).getD 0 0 : Nat) : Int) = 0 := ffv_zero ha hfa
      rw [if_pos hz, if_pos rfl]
      show Except.ok (0, 0) = Except.ok (octS W a t - octS W a t, octD W a t - octD W a t)
      rw [Int.sub_self, Int.sub_self]
    | succ i ih =>
      intro hi
      obtain ⟨h1, h2, h3⟩ := ih (by omega)
      obtain ⟨k, hk⟩ := c1 i (by simpa using hi)
      generalize hp : (((a :: l).getD i 0 : Nat) : Int) = p at *
      generalize hr : (((a :: l).getD (i + 1) 0 : Nat) : Int) = r at *
      have hrin := hk.1.1.in' w1
      refine ⟨hk.1.2.2, hrin, ?_⟩
      rw [wkS_next h3]
      unfold wk1
      have hz : ffv W H bl (((a :: l).getD (i + 1) 0 : Nat) : Int) = 0 := by
        rw [hr]
        exact ffv_zero hrin (hk.1.2.2.free w1 hS hD hfa)
      rw [if_pos hz, if_neg (Nat.succ_ne_zero i)]
      have hst : stepD W H bl (((a :: l).getD (i + 1 - 1) 0 : Nat) : Int) (((a :: l).getD (i + 1) 0 : Nat) : Int) = some k := by
        rw [Nat.add_sub_cancel, hp, hr]
        exact stepD_edge w1 hk.1.1
      rw [hst]
      obtain ⟨g1, g2⟩ := (good_iff w1 hk.1.1).1 hk.1.2.1
      show Except.ok (octS W a t - octS W p t + stS k, octD W a t - octD W p t + stD k) = _
      congr 2 <;> omega
  refine ⟨fun i hi => ⟨(key i hi).1, (key i hi).2.1⟩, ?_⟩
  have hl := (key l.length (by simp)).2.2
  rw [c2, octS_self, octD_self, Int.sub_zero, Int.sub_zero] at hl
  exact wkV_ok hl (by simp)
end Go.Proofs.YtfhicijgpdpfpaaDoor
/-
  What the reference's flood gives back, laid in memory.
-/
namespace Go.Proofs.YtfhicijgpdpfpaaDoor
open Go.RowKit

/-- the two arrays that come back, laid in memory -/
theorem lab_laid (w : World) (F : Int → Option (Int × Int)) :
    ((w.alloc (.cells zC 45)).alloc (.cells zB 46)).there w.heap.size 0 512 ∧ (((w.alloc (.cells zC 45)).alloc (.cells zB 46)).setCells w.heap.size 0 (costL F)).there (w.heap.size + 1) 0 256 ∧
      LabAt ((((w.alloc (.cells zC 45)).alloc (.cells zB 46)).setCells w.heap.size 0 (costL F)).setCells (w.heap.size + 1) 0 (isL F)) w.heap.size (w.heap.size + 1) F ∧
      Below w.heap.size w ((((w.alloc (.cells zC 45)).alloc (.cells zB 46)).setCells w.heap.size 0 (costL F)).setCells (w.heap.size + 1) 0 (isL F)) := by
  have L := LabAt.new w
  have hB : Below w.heap.size w ((w.alloc (.cells zC 45)).alloc (.cells zB 46)) := ((Below.refl _ _).alloc (Nat.le_refl _) _).alloc (by simp) _
  have t0 : ((w.alloc (.cells zC 45)).alloc (.cells zB 46)).there w.heap.size 0 512 := World.there_alloc (new_there w (List.replicate 512 (Value.int .i64 0)) 45 512 List.length_replicate) _
  have t1 : ((w.alloc (.cells zC 45)).alloc (.cells zB 46)).there (w.heap.size + 1) 0 256 := by
    have := new_there (w.alloc (.cells zC 45)) (List.replicate 256 (Value.bool false)) 46 256 List.length_replicate
    rw [show (w.alloc (.cells zC 45)).heap.size = w.heap.size + 1 by simp] at this
    exact this
  have t2 : (((w.alloc (.cells zC 45)).alloc (.cells zB 46)).setCells w.heap.size 0 (costL F)).there (w.heap.size + 1) 0 256 := World.there_setCells t1 _ _ _
  refine ⟨t0, t2, ?_, below_setCells _ (by omega) _ _ (below_setCells _ (Nat.le_refl _) _ _ hB)⟩
  refine labAt_range ?_ ?_ (fun o => ?_) (fun o => ?_) (by omega)
  · exact World.rangeAt_setCells_apart (World.rangeAt_setCells_same _ _ _ _ (by rw [costL_len]; exact t0)) _ _ _ (Or.inl (by omega))
  · exact World.rangeAt_setCells_same _ _ _ _ (by rw [isL_len]; exact t2)
  · rw [World.frozen?_setCells, World.frozen?_setCells]; exact L.zc o
  · rw [World.frozen?_setCells, World.frozen?_setCells]; exact L.zi o

theorem th_of {w : World} {b o n : Nat} {l : List Value} (hl : l.length = n) (h : w.there b o n) : w.there b o l.toArray.size := by rw [List.size_toArray, hl]; exact h
theorem in_of {P : Program} {t : TypeId} {n : Nat} {l : List Value} (hl : l.length = n) (h : (P.info? t).map (·.size) = some n) : (P.info? t).map (·.size) = some l.toArray.size := by rw [List.size_toArray, hl]; exact h


theorem lab_ok {E : Int → Nat → Int → Prop} {o : Int} {F : Int → Option (Int × Int)} (h : Best E o F) (a : Int) : okC (labS F a) (labD F a) := by
  unfold labS labD okC
  cases hF : F a with
  | none => simp
  | some c =>
    obtain ⟨s, d⟩ := c
    obtain ⟨h1, h2, h3⟩ := h.small hF
    have := val_small h1 h2 h3
    show 0 ≤ s ∧ s ≤ 2097152 ∧ 0 ≤ d ∧ d ≤ 2097152
    omega

/-- a corner's list -/
theorem crs_mem {W H : Int} {bl : Nat → Bool} {k c : Nat} : c ∈ crs W H bl k ↔ c < k ∧ cornB W H bl (c : Nat) = true := by
  unfold crs
  rw [List.mem_filter, List.mem_range]
theorem cornB_iff {W H : Int} {bl : Nat → Bool} {c : Int} : cornB W H bl c = true ↔ CornC W H bl c := by
  unfold cornB CornC Corn
  rw [Bool.and_eq_true]
  constructor
  · rintro ⟨h1, h2⟩
    refine ⟨h1, ?_⟩
    unfold turnB at h2
    obtain ⟨j, hj, h3⟩ := List.any_eq_true.1 h2
    have hj := List.mem_range.1 hj
    unfold crB at h3
    rw [Bool.and_eq_true, Bool.and_eq_true] at h3
    exact ⟨2 * j + 1, by omega, by omega, by simpa using h3.2, h3.1.1, h3.1.2⟩
  · rintro ⟨h1, k, k1, k2, k3, k4, k5⟩
    refine ⟨h1, ?_⟩
    obtain ⟨j, rfl⟩ : ∃ j, k = 2 * j + 1 := ⟨k / 2, by omega⟩
    refine turnB_true (j := j) (by omega) ?_
    unfold crB
    rw [k3, k4, k5]
    rfl
theorem cornC_in {W H : Int} {bl : Nat → Bool} {c : Int} (w1 : 1 ≤ W) (h : CornC W H bl c) : inB W H c = true := by
  obtain ⟨a1, a2, a3, a4⟩ := open_in h.1
  have e := cell_eq W c
  have h1 := Int.mul_nonneg a3 (show 0 ≤ W by omega)
  have h2 : c / W * W + W ≤ H * W := by
    have := Int.mul_le_mul_of_nonneg_right (show c / W + 1 ≤ H by omega) (show 0 ≤ W by omega)
    rw [Int.add_mul] at this
    omega
  have h3 : H * W = W * H := Int.mul_comm H W
  exact decide_eq_true ⟨by omega, by omega⟩
end Go.Proofs.YtfhicijgpdpfpaaDoor
/-
  The reference's octile cost between two cells, and what is near by its floods.
-/
namespace Go.Proofs.YtfhicijgpdpfpaaDoor
open Go.RowKit

set_option maxHeartbeats 2000000 in
set_option maxRecDepth 1000000 in
theorem roct' {M : Nat} {W a b ax ay bx by' cs cd : Int} (w : World) (c0 : w.cell? ⟨M, 0, none⟩ = some (.int .i64 W)) (hne : W ≠ 0) (t1 : Int.tmod a W = ax) (t2 : Int.tmod b W = bx) (t3 : Int.tdiv a W = ay) (t4 : Int.tdiv b W = by')
    (u3 : IntKind.i64.wrap ay = ay) (u4 : IntKind.i64.wrap by' = by')
    (ho : ∀ w, Calls Tryd.prog 62 #[.int .i64 ax, .int .i64 ay, .int .i64 bx, .int .i64 by'] w fun e w' => e = .returned (.agg #[.int .i64 cs, .int .i64 cd]) ∧ Below w.heap.size w w') :
    Calls Tryd.prog 71 #[.pointer (some ⟨M, 0, none⟩), .int .i64 a, .int .i64 b] w fun e w' => e = .returned (.agg #[.int .i64 cs, .int .i64 cd]) ∧ Below w.heap.size w w' := by
  have hM : M < w.heap.size := World.block_lt_of_cell? w _ c0
  go_enter Tryd.func71, Tryd.ntmps71
  go_wp2
  obtain ⟨k0, k1, f0, f1, hsz, HB⟩ := slotW w (m := 0) rfl
  rw [World.drewN_zero] at k0 k1 f0 f1 hsz HB
  have c0 := (HB.cell (p := ⟨M, 0, none⟩) hM).trans c0
  generalize w.alloc (.cells #[.int .i64 0, .int .i64 0] 31) = W1 at *
  have c0 : W1.drew.cell? ⟨M, 0, none⟩ = some (.int .i64 W) := c0
  have k0 : W1.drew.cell? ⟨w.heap.size, 0, none⟩ = some (.int .i64 0) := k0
  have k1 : W1.drew.cell? ⟨w.heap.size, 1, none⟩ = some (.int .i64 0) := k1
  have f0 : W1.drew.frozen? ⟨w.heap.size, 0, none⟩ = false := f0
  have f1 : W1.drew.frozen? ⟨w.heap.size, 1, none⟩ = false := f1
  have HB : Below w.heap.size w W1.drew := ⟨HB.os, HB.tape, HB.output, HB.size, HB.block⟩
  have hsz : w.heap.size < W1.drew.heap.size := World.block_lt_of_cell? W1.drew _ k0
  go_region_with (first | (go_at_call 62; refine (ho _).mono ?_; rintro e w2 ⟨rfl, hb2⟩; have k0 := (hb2.cell (p := ⟨w.heap.size, 0, none⟩) hsz).trans k0; have k1 := (hb2.cell (p := ⟨w.heap.size, 1, none⟩) hsz).trans k1; have f0 := (hb2.frozen (p := ⟨w.heap.size, 0, none⟩) hsz).trans f0; have f1 := (hb2.frozen (p := ⟨w.heap.size, 1, none⟩) hsz).trans f1; have HB := HB.trans (hb2.mono HB.size)))
  all_goals
    have r0 := popCells w2 w.heap.size cs cd k0 k1
    go_wp2
    exact bodyPost_ret (v := .agg #[.int .i64 cs, .int .i64 cd]) (by simp [results, Tryd.results71, go_sem, r0.1, r0.2]) rfl ⟨rfl, (HB.setCell (p := ⟨w.heap.size, 0, none⟩) (Nat.le_refl _) _).setCell (p := ⟨w.heap.size, 1, none⟩) (Nat.le_refl _) _⟩

theorem roct_any {M : Nat} {W H V : Int} {bl : Nat → Bool} (a b : Int) (w : World) (g : RefAt w M W H V bl) (ha : inB W H a = true) (hb : inB W H b = true) :
    Calls Tryd.prog 71 #[.pointer (some ⟨M, 0, none⟩), .int .i64 a, .int .i64 b] w fun e w' => e = .returned (.agg #[.int .i64 (octS W a b), .int .i64 (octD W a b)]) ∧ Below w.heap.size w w' := by
  have gw1 := g.w1
  have gw2 := g.w2
  have gh2 := g.h2
  have qa : 0 ≤ a ∧ a < W * H := of_decide_eq_true ha
  have qb : 0 ≤ b ∧ b < W * H := of_decide_eq_true hb
  obtain ⟨m1, m3, d1, d3⟩ := place_bd gw1 ha
  obtain ⟨m2, m4, d2, d4⟩ := place_bd gw1 hb
  have t1 : Int.tmod a W = a % W := Int.tmod_eq_emod_of_nonneg qa.1
  have t2 : Int.tmod b W = b % W := Int.tmod_eq_emod_of_nonneg qb.1
  have t3 : Int.tdiv a W = a / W := Int.tdiv_eq_ediv_of_nonneg qa.1
  have t4 : Int.tdiv b W = b / W := Int.tdiv_eq_ediv_of_nonneg qb.1
  refine roct' w g.c0 (by omega) t1 t2 t3 t4 (wrap_small (by omega) (by omega)) (wrap_small (by omega) (by omega)) (fun w => ?_)
  exact rOct_any _ _ _ _ w (near_small m1 (by omega)) (near_small d1 (by omega)) (near_small m2 (by omega)) (near_small d2 (by omega))

/-- a cost and what is there, in memory -/
def Thr (w : World) (C I p : Nat) (b : Bool) (s d : Int) : Prop :=
  w.cell? ⟨I, p, none⟩ = some (.bool b) ∧ w.cell? ⟨C, p * 2, none⟩ = some (.int .i64 s) ∧ w.cell? ⟨C, p * 2 + 1, none⟩ = some (.int .i64 d)
theorem Thr.below {w w' : World} {C I p : Nat} {b : Bool} {s d : Int} (h : Thr w C I p b s d) (hb : Below w.heap.size w w') : Thr w' C I p b s d := by
  obtain ⟨h1, h2, h3⟩ := h
  have k : ∀ {a : Addr} {v : Value}, w.cell? a = some v → w'.cell? a = some v := fun {a v} h => (hb.cell (World.block_lt_of_cell? w a h)).trans h
  exact ⟨k h1, k h2, k h3⟩

set_option maxHeartbeats 4000000 in
set_option maxRecDepth 1000000 in
theorem rnear_any {M : Nat} {W H V : Int} {bl : Nat → Bool} (a b : Nat) (w : World) (g : RefAt w M W H V bl) (hml : M < w.heap.size) (ha : inB W H a = true) (hb : inB W H b = true) :
    Calls Tryd.prog 39 #[.pointer (some ⟨M, 0, none⟩), .int .i64 a, .int .i64 b] w fun e w' => ∃ r, e = .returned (.bool r) ∧ (r = true ↔ ∃ z, On W H bl a b z) ∧ Below w.heap.size w w' := by
  have gw1 := g.w1
  have hwh := wh_bd g.w1 g.w2 g.h1 g.h2
  have qb : 0 ≤ (b : Int) ∧ (b : Int) < W * H := of_decide_eq_true hb
  have hsm := oct_small g.w1 g.w2 g.h1 g.h2 ha hb
  have hfl1 := rflood_any a w g hml ha
  obtain ⟨q3, q4⟩ := qb
  have q5 : (b : Int) < 256 := by omega
  have q6 : b < 256 := by omega
  go_enter Tryd.func39, Tryd.ntmps39
  go_wp2_with fail
  refine hfl1.mono ?_
  rintro e w10 ⟨F, rfl, BF, hb10⟩
  have g10 := g.below hb10 hml
  have hml10 := Nat.lt_of_lt_of_le hml hb10.size
  obtain ⟨t54, t55, LA, hbL⟩ := lab_laid w10 F
  have o1 := costL_one F
  have o2 := isL_one F
  have hcl := costL_len F
  have hil := isL_len F
  have g11 := g10.below hbL hml10
  have B11 := hb10.trans (hbL.mono hb10.size)
  clear hfl1 hb10 hbL g10 hml10
  generalize costL F = cs at *
  generalize isL F = is' at *
  have hsc := run_storeCells_cells (P := Tryd.prog) (w10.heap.size + 1) 0 is' 0 (((w10.alloc (.cells zC 45)).alloc (.cells zB 46)).setCells w10.heap.size 0 cs) (fun j hj => by simpa using (t55 j (by omega)).1) (fun j hj => by simpa using (t55 j (by omega)).2) o2
  simp only [Nat.add_zero] at hsc
  go_wp2_with (first | (refine wpList_alloc54 rfl rfl ?_) | (refine wpList_alloc55 rfl rfl ?_) | (refine wpList_store_mid rfl 45 _ _ rfl _ _ cs.toArray rfl rfl (th_of hcl t54) (in_of hcl info54) (all_oneCell_toArray o1) ?_) | (refine wpList_store_mid rfl 46 _ _ rfl _ _ is'.toArray rfl rfl (th_of hil t55) (in_of hil info55) (all_oneCell_toArray o2) ?_))
  clear hsc o1 o2 hcl hil t54 t55
  generalize (((w10.alloc (.cells zC 45)).alloc (.cells zB 46)).setCells w10.heap.size 0 cs).setCells (w10.heap.size + 1) 0 is' = w11 at *
  generalize w10.heap.size = C1 at *
  generalize C1 + 1 = I1 at *
  have hni := near_iff (b := b) gw1 (by omega) (by omega) BF
  have bD : Below w11.heap.size w11 w11.drew := ⟨rfl, rfl, rfl, Nat.le_refl _, fun _ _ => rfl⟩
  have x0 := LA.i0 b q6
  cases hFb : F (b : Int) with
  | none =>
    rw [hFb] at x0
    have x0 : w11.cell? ⟨I1, b, none⟩ = some (.bool false) := x0
    rw [hFb] at hni
    have HN : Hid (¬ ∃ z, On W H bl a b z) := fun h => by cases hni.1 h
    clear hni LA bD
    go_quiet (fail)
    go_wp2
    go_ret
    exact ⟨false, rfl, ⟨fun h => (by cases h), fun h => absurd h HN.out⟩, below_drewN B11 _⟩
  | some c =>
    obtain ⟨s0, d0⟩ := c
    have y0 := LA.c0 b q6
    have y1 := LA.c1 b q6
    rw [(lab_some hFb).1] at y0
    rw [(lab_some hFb).2] at y1
    rw [hFb] at x0
    have x0 : w11.cell? ⟨I1, b, none⟩ = some (.bool true) := x0
    rw [hFb] at hni
    have CC : Thr w11.drew C1 I1 b true s0 d0 := ⟨x0, y0, y1⟩
    have gD := g11.below bD (Nat.lt_of_lt_of_le hml B11.size)
    have BD := B11.trans (bD.mono B11.size)
    have hoc := roct_any (a : Int) b w11.drew gD ha hb
    clear x0 y0 y1 LA g11 B11 bD gD
    generalize octS W a b = qs at *
    generalize octD W a b = qd at *
    by_cases e1 : s0 = qs
    · by_cases e2 : d0 = qd
      · subst e1 e2
        have HN : Hid (∃ z, On W H bl a b z) := hni.2 rfl
        clear hni
        go_region_held3 (fun w' => w'.cell? ⟨I1, b, none⟩ = some (.bool true) ∧ w'.cell? ⟨C1, b * 2, none⟩ = some (.int .i64 s0) ∧ w'.cell? ⟨C1, b * 2 + 1, none⟩ = some (.int .i64 d0)) (first | (exact CC)) (first | (go_at_call 71; refine hoc.mono ?_; rintro e wx ⟨rfl, hbx⟩; have CC := CC.below hbx; have BD := BD.trans (hbx.mono BD.size)))
        all_goals
          go_wp2
          go_ret
          exact ⟨true, rfl, ⟨fun _ => HN.out, fun _ => rfl⟩, BD⟩
      · subst e1
        have HN : Hid (¬ ∃ z, On W H bl a b z) := fun h => by have := hni.1 h; simp at this; exact e2 this
        clear hni
        go_region_held3 (fun w' => w'.cell? ⟨I1, b, none⟩ = some (.bool true) ∧ w'.cell? ⟨C1, b * 2, none⟩ = some (.int .i64 s0) ∧ w'.cell? ⟨C1, b * 2 + 1, none⟩ = some (.int .i64 d0)) (first | (exact CC)) (first | (go_at_call 71; refine hoc.mono ?_; rintro e wx ⟨rfl, hbx⟩; have CC := CC.below hbx; have BD := BD.trans (hbx.mono BD.size)))
        all_goals
          go_wp2
          go_ret
          exact ⟨false, rfl, ⟨fun h => (by cases h), fun h => absurd h HN.out⟩, BD⟩
    · have HN : Hid (¬ ∃ z, On W H bl a b z) := fun h => by have := hni.1 h; simp at this; exact e1 this.1
      clear hni
      go_region_held3 (fun w' => w'.cell? ⟨I1, b, none⟩ = some (.bool true) ∧ w'.cell? ⟨C1, b * 2, none⟩ = some (.int .i64 s0) ∧ w'.cell? ⟨C1, b * 2 + 1, none⟩ = some (.int .i64 d0)) (first | (exact CC)) (first | (go_at_call 71; refine hoc.mono ?_; rintro e wx ⟨rfl, hbx⟩; have CC := CC.below hbx; have BD := BD.trans (hbx.mono BD.size)))
      all_goals
        go_wp2
        go_ret
        exact ⟨false, rfl, ⟨fun h => (by cases h), fun h => absurd h HN.out⟩, BD⟩
end Go.Proofs.YtfhicijgpdpfpaaDoor
/-
  What all cells cost from one, as one value: the reference's 'from'.
-/
namespace Go.Proofs.YtfhicijgpdpfpaaDoor
open Go.RowKit

/-- a ray's cells -/
def rayL (c : Int) (F : Int → Option (Int × Int)) : List Value := Value.int .i64 c :: (costL F ++ isL F)
/-- .. of an empty one -/
def zR (c : Int) : List Value := Value.int .i64 c :: (List.replicate 512 (Value.int .i64 0) ++ List.replicate 256 (Value.bool false))
theorem zR_len (c : Int) : (zR c).length = 769 := by unfold zR; rw [List.length_cons, List.length_append, List.length_replicate, List.length_replicate]
theorem rayL_len (c : Int) (F : Int → Option (Int × Int)) : (rayL c F).length = 769 := by unfold rayL; rw [List.length_cons, List.length_append, costL_len, isL_len]
theorem zR_one (c : Int) : ∀ v ∈ zR c, v.oneCell' = true := by
  intro v hv
  unfold zR at hv
  rw [List.mem_cons, List.mem_append, List.mem_replicate, List.mem_replicate] at hv
  rcases hv with rfl | ⟨_, rfl⟩ | ⟨_, rfl⟩ <;> rfl
theorem rayL_one (c : Int) (F : Int → Option (Int × Int)) : ∀ v ∈ rayL c F, v.oneCell' = true := by
  intro v hv
  unfold rayL at hv
  rw [List.mem_cons, List.mem_append] at hv
  rcases hv with rfl | h | h
  · rfl
  · exact costL_one F v h
  · exact isL_one F v h
theorem run_alloc112 (w : World) : (Instr.alloc 112 true (.tuple #[])).run Tryd.prog w = .ok (.pointer (some ⟨w.heap.size, 0, none⟩)) (w.alloc (.cells (zR 0).toArray 112)) := by kernel_rfl
theorem built112 (c : Int) : Tryd.prog.built 112 [(0, .int .i64 c)] = some (zR c).toArray := by kernel_rfl
theorem info112 : (Tryd.prog.info? 112).map (·.size) = some 769 := by kernel_rfl
/-- memory of a type, by what is laid -/
theorem wpList_alloc_by {t : TypeId} {z : Array Value} (hal : ∀ w : World, (Instr.alloc t true (.tuple #[])).run Tryd.prog w = .ok (.pointer (some ⟨w.heap.size, 0, none⟩)) (w.alloc (.cells z t))) {ops : Array Oper} {rest : List Oper} {o : Oper} {a : Act} {w : World} {Q : Exit → Act → World → Prop} (hgd : o.guard = none) (ho : o.op = .alloc t)
    (h : wpList Tryd.prog ops Q rest (a.put o.dst (.pointer (some ⟨w.heap.size, 0, none⟩))) (w.alloc (.cells z t))) : wpList Tryd.prog ops Q (o :: rest) a w :=
  wpList_plain hgd fun _ hK => by
    unfold Oper.wp execOp
    simp only [ho, Sem.run_bind, hal w, Result.andThen_ok]
    exact hK _ _ h
/-- a struct whose first field is said -/
theorem wpList_build_by {t : TypeId} {z : Array Value} {v : Value} (hbu : Tryd.prog.built t [(0, v)] = some z) {ops : Array Oper} {rest : List Oper} {o : Oper} {a : Act} {w : World} {Q : Exit → Act → World → Prop} (hgd : o.guard = none) (x : Operand) (ho : o.op = .build t #[(0, x)])
    (hx : a.eval x = v) (h : wpList Tryd.prog ops Q rest (a.put o.dst (.agg z)) w) : wpList Tryd.prog ops Q (o :: rest) a w :=
  wpList_plain hgd fun _ hK => by
    have e : Tryd.prog.built t ((#[(0, x)] : Array (Nat × Operand)).map fun (i, x) => (i, a.eval x)).toList = some z := by
      have e0 : ((#[(0, x)] : Array (Nat × Operand)).map fun (i, x) => (i, a.eval x)).toList = [(0, a.eval x)] := by simp
      rw [e0, hx]
      exact hbu
    refine wp_build t #[(0, x)] ho (by rw [e]; rfl) ?_
    rw [e]
    exact hK _ _ h

theorem rayL_at {c : Int} {F : Int → Option (Int × Int)} (i : Nat) : (rayL c F)[1 + i]? = (costL F ++ isL F)[i]? := by
  unfold rayL
  rw [Nat.add_comm, List.getElem?_cons_succ]

/-- a ray lies in block b -/
structure RayAt (w : World) (b : Nat) (c : Int) (F : Int → Option (Int × Int)) : Prop where
  a0 : w.cell? ⟨b, 0, none⟩ = some (.int .i64 c)
  s0 : ∀ p : Nat, p < 256 → w.cell? ⟨b, 1 + p * 2, none⟩ = some (.int .i64 (labS F p))
  d0 : ∀ p : Nat, p < 256 → w.cell? ⟨b, 1 + p * 2 + 1, none⟩ = some (.int .i64 (labD F p))
  i0 : ∀ p : Nat, p < 256 → w.cell? ⟨b, 513 + p, none⟩ = some (.bool (F p).isSome)
theorem RayAt.lt {w : World} {b : Nat} {c : Int} {F : Int → Option (Int × Int)} (h : RayAt w b c F) : b < w.heap.size := World.block_lt_of_cell? w _ h.a0
theorem RayAt.below {w w' : World} {b : Nat} {c : Int} {F : Int → Option (Int × Int)} (h : RayAt w b c F) (hb : Below w.heap.size w w') : RayAt w' b c F := by
  have k : ∀ {a : Addr} {v : Value}, w.cell? a = some v → w'.cell? a = some v := fun {a v} h => (hb.cell (World.block_lt_of_cell? w a h)).trans h
  exact ⟨k h.a0, fun p hp => k (h.s0 p hp), fun p hp => k (h.d0 p hp), fun p hp => k (h.i0 p hp)⟩
theorem costL_at (F : Int → Option (Int × Int)) (i : Nat) (hi : i < 512) : (costL F)[i]? = some (Value.int .i64 (if i % 2 = 0 then labS F (i / 2 : Nat) else labD F (i / 2 : Nat))) := by
  unfold costL
  rw [List.getElem?_map, List.getElem?_range hi]
  rfl
theorem isL_at (F : Int → Option (Int × Int)) (i : Nat) (hi : i < 256) : (isL F)[i]? = some (Value.bool (F (i : Int)).isSome) := by
  unfold isL
  rw [List.getElem?_map, List.getElem?_range hi]
  rfl
theorem rayAt_range {w : World} {b : Nat} {c : Int} {F : Int → Option (Int × Int)} (h : w.rangeAt b 0 (rayL c F)) : RayAt w b c F := by
  have at_ : ∀ j v, (rayL c F)[j]? = some v → w.cell? ⟨b, j, none⟩ = some v := fun j v hj => by have := h j v hj; rw [Nat.zero_add] at this; exact this
  refine ⟨at_ 0 _ rfl, fun p hp => at_ _ _ ?_, fun p hp => at_ _ _ ?_, fun p hp => at_ _ _ ?_⟩
  · rw [rayL_at, List.getElem?_append_left (by rw [costL_len]; omega), costL_at F _ (by omega)]
    rw [if_pos (by omega), show p * 2 / 2 = p by omega]
  · rw [show 1 + p * 2 + 1 = 1 + (p * 2 + 1) by omega, rayL_at, List.getElem?_append_left (by rw [costL_len]; omega), costL_at F _ (by omega)]
    rw [if_neg (by omega), show (p * 2 + 1) / 2 = p by omega]
  · rw [show 513 + p = 1 + (512 + p) by omega, rayL_at, List.getElem?_append_right (by rw [costL_len]; omega), costL_len, show 512 + p - 512 = p by omega]
    exact isL_at F p hp
theorem range_ray {w : World} {b : Nat} {c : Int} {F : Int → Option (Int × Int)} (h0 : w.cell? ⟨b, 0, none⟩ = some (.int .i64 c)) (h1 : w.rangeAt b 1 (costL F)) (h2 : w.rangeAt b 513 (isL F)) : w.rangeAt b 0 (rayL c F) := by
  intro j v hj
  rw [Nat.zero_add]
  cases j with
  | zero =>
    have : v = .int .i64 c := (Option.some.inj hj).symm
    rw [this]; exact h0
  | succ j =>
    rw [Nat.add_comm, rayL_at] at hj
    by_cases q : j < 512
    · rw [List.getElem?_append_left (by rw [costL_len]; exact q)] at hj
      rw [Nat.add_comm]
      exact h1 j v hj
    · rw [List.getElem?_append_right (by rw [costL_len]; omega), costL_len] at hj
      have := h2 (j - 512) v hj
      rw [show 513 + (j - 512) = j + 1 by omega] at this
      exact this
theorem there_sub {w : World} {b o n o' n' : Nat} (h : w.there b o n) (h1 : o ≤ o') (h2 : o' + n' ≤ o + n) : w.there b o' n' := fun j hj => by
  have := h (o' - o + j) (by omega)
  rw [show o + (o' - o + j) = o' + j by omega] at this
  exact this
theorem there_below {w w' : World} {b o n : Nat} (h : w.there b o n) (hl : b < w.heap.size) (hb : Below w.heap.size w w') : w'.there b o n := fun j hj => by
  rw [hb.cell (p := ⟨b, o + j, none⟩) hl, hb.frozen (p := ⟨b, o + j, none⟩) hl]
  exact h j hj

def Rayed (w w' : World) (e : Ending) (W H : Int) (bl : Nat → Bool) (o : Int) : Prop :=
  ∃ F, e = .returned (.agg (rayL o F).toArray) ∧ Best (Edge W H bl) o F ∧ Below w.heap.size w w'

theorem fz_of {w : World} {b o n : Nat} (h : w.there b o n) (j : Nat) (hj : j < n) : w.frozen? ⟨b, o + 0 + j, none⟩ = false := (h j hj).2
theorem is_of {w : World} {b o n : Nat} (h : w.there b o n) (j : Nat) (hj : j < n) : (w.cell? ⟨b, o + 0 + j, none⟩).isSome = true := (h j hj).1
theorem stored {w : World} {b o n : Nat} {l : List Value} (hl : l.length = n) (h : w.there b o n) (ho : ∀ v ∈ l, v.oneCell' = true) : (storeCells ⟨b, o, none⟩ l).run Tryd.prog w = .ok () (w.setCells b o l) :=
  run_storeCells_cells (P := Tryd.prog) b o l 0 w (fun j hj => is_of h j (by omega)) (fun j hj => fz_of h j (by omega)) ho

theorem results_one {P : Program} {fn : Func} {tmps : Array Value} {w : World} {i : Nat} {s : TypeId} {A : Addr} {u : Value} (hr : fn.results = #[.cell i s]) (a : tmps.getD i undef = .pointer (some A))
    (h : (loadVar s A).run P w = .ok u w) : (results fn tmps).run P w = .ok u w := by
  unfold results
  rw [hr]
  rw [Array.getD_eq_getD_getElem?] at a
  simp [a, h, asAddr]

set_option maxHeartbeats 1000000 in
set_option maxRecDepth 1000000 in
theorem from' {M : Nat} {W H V : Int} {bl : Nat → Bool} {z0 zc : List Value} (c : Nat) (w : World) (g : RefAt w M W H V bl) (hml : M < w.heap.size) (hr : inB W H c = true)
    (hal : ∀ w : World, (Instr.alloc 112 true (.tuple #[])).run Tryd.prog w = .ok (.pointer (some ⟨w.heap.size, 0, none⟩)) (w.alloc (.cells z0.toArray 112)))
    (hbu : Tryd.prog.built 112 [(0, .int .i64 (c : Int))] = some zc.toArray) (l0 : z0.length = 769) (lc : zc.length = 769) (oc : ∀ v ∈ zc, v.oneCell' = true) (a0 : zc[0]? = some (.int .i64 (c : Int))) :
    Calls Tryd.prog 72 #[.pointer (some ⟨M, 0, none⟩), .int .i64 (c : Int)] w fun e w' => Rayed w w' e W H bl c := by
  have th0 := new_there w z0 112 769 l0
  have th1 := new_there (w.alloc (.cells z0.toArray 112)) z0 112 769 l0
  have hz1 : (w.alloc (.cells z0.toArray 112)).heap.size = w.heap.size + 1 := by simp
  rw [hz1] at th1
  have th0 := World.there_alloc th0 (.cells z0.toArray 112)
  have B1 : Below w.heap.size w ((w.alloc (.cells z0.toArray 112)).alloc (.cells z0.toArray 112)) := ((Below.refl _ _).alloc (Nat.le_refl _) _).alloc (by simp) _
  have hst := stored lc th1 oc
  have B2 : Below w.heap.size w (((w.alloc (.cells z0.toArray 112)).alloc (.cells z0.toArray 112)).setCells (w.heap.size + 1) 0 zc) := below_setCells _ (by omega) _ _ B1
  have hr1 := World.rangeAt_setCells_same ((w.alloc (.cells z0.toArray 112)).alloc (.cells z0.toArray 112)) (w.heap.size + 1) 0 zc (by rw [lc]; exact th1)
  have ha1 := hr1 0 _ a0
  have th0 := World.there_setCells th0 (w.heap.size + 1) 0 zc
  have th1 := World.there_setCells th1 (w.heap.size + 1) 0 zc
  go_enter Tryd.func72, Tryd.ntmps72
  go_wp2_with (first | (refine wpList_alloc_by hal rfl rfl ?_) | (refine wpList_build_by hbu rfl _ rfl rfl ?_))
  clear hst hr1 B1 oc a0
  generalize ((w.alloc (.cells z0.toArray 112)).alloc (.cells z0.toArray 112)).setCells (w.heap.size + 1) 0 zc = W2 at *
  have hl1 : w.heap.size + 1 < W2.heap.size := World.block_lt_of_cell? _ _ ha1
  have hfl := rflood_any c W2 (g.below B2 hml) (Nat.lt_of_lt_of_le hml B2.size) hr
  refine hfl.mono ?_
  rintro e w3 ⟨F, rfl, BF, hb3⟩
  have B3 := B2.trans (hb3.mono B2.size)
  have ha3 := (hb3.cell (p := ⟨w.heap.size + 1, 0 + 0, none⟩) hl1).trans ha1
  have th0 := there_below th0 (by omega) hb3
  have th1 := there_below th1 hl1 hb3
  have lC := costL_len F
  have lI := isL_len F
  have oC := costL_one F
  have oI := isL_one F
  have oR := rayL_one (c : Int) F
  have lR := rayL_len (c : Int) F
  have tC : w3.there (w.heap.size + 1) 1 512 := there_sub th1 (by omega) (by omega)
  have tI : (w3.setCells (w.heap.size + 1) 1 (costL F)).there (w.heap.size + 1) 513 256 := World.there_setCells (there_sub th1 (by omega) (by omega)) _ _ _
  have s1 := stored lC tC oC
  have s2 := stored lI tI oI
  have rC : ((w3.setCells (w.heap.size + 1) 1 (costL F)).setCells (w.heap.size + 1) 513 (isL F)).rangeAt (w.heap.size + 1) 1 (costL F) := World.rangeAt_setCells_apart (World.rangeAt_setCells_same _ _ _ _ (by rw [lC]; exact tC)) _ _ _ (Or.inr (Or.inl (by omega)))
  have rI : ((w3.setCells (w.heap.size + 1) 1 (costL F)).setCells (w.heap.size + 1) 513 (isL F)).rangeAt (w.heap.size + 1) 513 (isL F) := World.rangeAt_setCells_same _ _ _ _ (by rw [lI]; exact tI)
  have rA : ((w3.setCells (w.heap.size + 1) 1 (costL F)).setCells (w.heap.size + 1) 513 (isL F)).cell? ⟨w.heap.size + 1, 0, none⟩ = some (.int .i64 (c : Int)) := by
    have k1 : w3.rangeAt (w.heap.size + 1) 0 [.int .i64 (c : Int)] := fun j v hj => by
      cases j with
      | zero => cases hj; exact ha3
      | succ j => cases hj
    have k2 := World.rangeAt_setCells_apart (World.rangeAt_setCells_apart k1 (w.heap.size + 1) 1 (costL F) (Or.inr (Or.inl (by simp)))) (w.heap.size + 1) 513 (isL F) (Or.inr (Or.inl (by simp)))
    exact k2 0 _ rfl
  have rR := range_ray rA rC rI
  have B4 : Below w.heap.size w ((w3.setCells (w.heap.size + 1) 1 (costL F)).setCells (w.heap.size + 1) 513 (isL F)) := below_setCells _ (by omega) _ _ (below_setCells _ (by omega) _ _ B3)
  have th0 := World.there_setCells (World.there_setCells th0 (w.heap.size + 1) 1 (costL F)) (w.heap.size + 1) 513 (isL F)
  have s3 := stored lR th0 oR
  have rF : (((w3.setCells (w.heap.size + 1) 1 (costL F)).setCells (w.heap.size + 1) 513 (isL F)).setCells w.heap.size 0 (rayL (c : Int) F)).rangeAt w.heap.size 0 (rayL (c : Int) F) := World.rangeAt_setCells_same _ _ _ _ (by rw [lR]; exact th0)
  have B5 : Below w.heap.size w (((w3.setCells (w.heap.size + 1) 1 (costL F)).setCells (w.heap.size + 1) 513 (isL F)).setCells w.heap.size 0 (rayL (c : Int) F)) := below_setCells _ (Nat.le_refl _) _ _ B4
  clear rC rI rA oC oI tC tI ha3 ha1 B3 B2 hfl hb3 B4
  generalize hRL : rayL (c : Int) F = RL at *
  have HRL : Hid (rayL (c : Int) F = RL) := hRL
  clear hRL
  generalize costL F = CL at *
  generalize isL F = IL at *
  go_wp2_with (refine wpList_load_mid rfl 112 _ rfl (w.heap.size + 1) 0 rfl RL _ rR Tryd.underlying112 rfl (by rw [info112, lR]) ?_)
  refine bodyPost_ret (v := .agg RL.toArray) (results_one Tryd.results72 rfl (run_loadVar_mid _ w.heap.size 0 112 RL _ rF Tryd.underlying112 rfl (by rw [info112, lR]))) rfl ⟨F, by rw [HRL.out], BF, B5⟩

theorem from_any {M : Nat} {W H V : Int} {bl : Nat → Bool} (c : Nat) (w : World) (g : RefAt w M W H V bl) (hml : M < w.heap.size) (hr : inB W H c = true) :
    Calls Tryd.prog 72 #[.pointer (some ⟨M, 0, none⟩), .int .i64 (c : Int)] w fun e w' => Rayed w w' e W H bl c :=
  from' c w g hml hr run_alloc112 (built112 c) (zR_len 0) (zR_len c) (zR_one c) rfl
end Go.Proofs.YtfhicijgpdpfpaaDoor
