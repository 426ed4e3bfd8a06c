/-
  The walk of 'FloodSays'.
-/
import Derived.Test.YtfhicijgpdpfpaaDoorRFlood3
import Derived.Test.YtfhicijgpdpfpaaDoorFloods
namespace Go.Proofs.YtfhicijgpdpfpaaDoor
open Go.RowKit

theorem errV_zero : errV 0 = .nilIface := rfl
theorem errV_pos {n : Int} (h : 0 < n) : errV n = .iface 78 (.int .i64 n) := by unfold errV; rw [if_neg (by omega)]
theorem same_ev (n : Int) (w : World) (h : 0 ≤ n) :
    Calls Tryd.prog 13 #[errV n, .int .i64 n] w fun e w' => e = .returned (.bool true) ∧ w' = w := by
  by_cases q : n = 0
  · subst q; rw [errV_zero]; exact same_nil w
  · rw [errV_pos (by omega)]; exact same_err n w (by omega)
theorem ffv_nonneg (W H : Int) (bl : Nat → Bool) (c : Int) : 0 ≤ ffv W H bl c := by
  unfold ffv; split
  · split <;> omega
  · omega
theorem wkS_pos {W H : Int} {bl : Nat → Bool} {xs : Nat → Int} : ∀ {n : Nat} {e : Int}, wkS W H bl xs n = .error e → 0 ≤ e
  | 0, _, h => by rw [wkS] at h; cases h
  | n + 1, e, h => by
    rw [wkS] at h
    cases hw : wkS W H bl xs n with
    | error e' => rw [hw] at h; cases h; exact wkS_pos hw
    | ok c =>
      rw [hw] at h
      simp only at h
      unfold wk1 at h
      split at h
      · split at h
        · cases h
        · split at h
          · cases h; decide
          · cases h
      · cases h; exact ffv_nonneg W H bl _
theorem wkV_pos (W H : Int) (bl : Nat → Bool) (xs : Nat → Int) (n : Nat) : 0 ≤ (wkV W H bl xs n).2 := by
  unfold wkV
  split
  · decide
  · split
    · rename_i e he; exact wkS_pos he
    · exact Int.le_refl 0
theorem walk_any {b n cap : Nat} {A : Option Addr} {W H V : Int} {bl : Nat → Bool} {xs : Nat → Int} (w : World) (g : GridAt w b W H V bl) (s : StepsAt w) (hb : b < w.heap.size) (hx : OldRow w A n xs) (hn : n ≤ 300) :
    Calls Tryd.prog 11 #[.pointer (some ⟨b, 0, none⟩), .slice A n cap] w fun e w' => e = .returned (.tuple #[.agg #[.int .i64 (wkV W H bl xs n).1.1, .int .i64 (wkV W H bl xs n).1.2], errV (wkV W H bl xs n).2]) ∧ Below w.heap.size w w' := by
  by_cases h0 : n = 0
  · subst h0
    exact walk_none w
  · exact walk_some w g s hb hx hn (by omega)

theorem boxedF (w : World) (W H : Int) (A : Option Addr) (n cap : Nat) {wa : World}
    (hb : Below (w.alloc (.cells #[.int .i64 W, .int .i64 H, .slice A n cap] 24)).heap.size (w.alloc (.cells #[.int .i64 W, .int .i64 H, .slice A n cap] 24)) wa) :
    wa.cell? ⟨w.heap.size, 0, none⟩ = some (.int .i64 W) ∧ wa.cell? ⟨w.heap.size, 1, none⟩ = some (.int .i64 H) ∧ wa.cell? ⟨w.heap.size, 2, none⟩ = some (.slice A n cap) := by
  have h : ∀ o, wa.cell? ⟨w.heap.size, o, none⟩ = #[Value.int .i64 W, .int .i64 H, .slice A n cap][o]? := fun o => by
    rw [hb.cell (p := ⟨w.heap.size, o, none⟩) (by simp), World.cell?_alloc_new]
  exact ⟨h 0, h 1, h 2⟩

set_option maxHeartbeats 1000000 in
set_option maxRecDepth 1000000 in
theorem floodSays_many (W H : Int) (A B : Option Addr) (n cap k cb : Nat) (c : Int) (w : World) (s : StepsAt w) (h0 : 0 < w.heap.size) (_hk : k ≤ maxLen) (hm : 300 < (k : Int)) :
    Calls Tryd.prog 3 #[.agg #[.int .i64 W, .int .i64 H, .slice A n cap], .int .i64 c, .slice B k cb] w fun e w' => e = .returned (.bool true) ∧ Below w.heap.size w w' := by
  unfold maxLen at _hk
  have hb : Below w.heap.size w (w.alloc (.cells #[.int .i64 W, .int .i64 H, .slice A n cap] 24)) := (Below.refl _ _).alloc (Nat.le_refl _) _
  have hs := s.below hb h0
  go_enter Tryd.func3, Tryd.ntmps3
  go_wp2_with (go_at_call 9; refine (floods_any _ hs).mono ?_; rintro e w1 ⟨rfl, hb1⟩)
  go_ret
  exact ⟨rfl, hb.trans (hb1.mono (by simp))⟩

set_option maxHeartbeats 1000000 in
set_option maxRecDepth 1000000 in
theorem floodSays_none (W H : Int) (A B : Option Addr) (n cap k cb : Nat) (c : Int) (w : World) (s : StepsAt w) (h0 : 0 < w.heap.size) (hk : ¬ 300 < (k : Int))
    (hL : ∀ w' : World, Calls Tryd.prog 10 #[.agg #[.int .i64 W, .int .i64 H, .slice A n cap]] w' fun e w'' => e = .returned (.tuple #[.pointer none, .pointer none, .bool false]) ∧ Below w'.heap.size w' w'') :
    Calls Tryd.prog 3 #[.agg #[.int .i64 W, .int .i64 H, .slice A n cap], .int .i64 c, .slice B k cb] w fun e w' => e = .returned (.bool true) ∧ Below w.heap.size w w' := by
  have hb : Below w.heap.size w (w.alloc (.cells #[.int .i64 W, .int .i64 H, .slice A n cap] 24)) := (Below.refl _ _).alloc (Nat.le_refl _) _
  have hs := s.below hb h0
  go_enter Tryd.func3, Tryd.ntmps3
  go_wp2_with (first | (go_at_call 9; refine (floods_any _ hs).mono ?_; rintro e w1 ⟨rfl, hb1⟩; obtain ⟨p0, p1, p2⟩ := boxedF w W H A n cap hb1) | (go_at_call 10; refine (hL _).mono ?_; rintro e w2 ⟨rfl, hb2⟩))
  go_ret
  exact ⟨rfl, (hb.trans (hb1.mono (by simp))).trans (hb2.mono (hb.trans (hb1.mono (by simp))).size)⟩

/-- what the loop keeps -/
structure FS (w : World) (fb gb cb M WB IB : Nat) (W H V : Int) (bl : Nat → Bool) (F : Int → Option (Int × Int)) : Prop where
  fl : FloodAt w fb gb cb W H V bl F (cnt F (W * H).toNat)
  ra : RefAt w M W H V bl
  lab : LabAt w WB IB F
theorem FS.below {w w' : World} {fb gb cb M WB IB : Nat} {W H V : Int} {bl : Nat → Bool} {F : Int → Option (Int × Int)} (h : FS w fb gb cb M WB IB W H V bl F) (hb : Below w.heap.size w w') : FS w' fb gb cb M WB IB W H V bl F :=
  ⟨h.fl.below hb, h.ra.below hb (World.block_lt_of_cell? w _ h.ra.c0), h.lab.below hb⟩
theorem FS.lt {w : World} {fb gb cb M WB IB : Nat} {W H V : Int} {bl : Nat → Bool} {F : Int → Option (Int × Int)} (h : FS w fb gb cb M WB IB W H V bl F) : M < w.heap.size := World.block_lt_of_cell? w _ h.ra.c0


theorem Touch.keep {b : Nat} {w w' : World} (h : Touch b w w') : Keep (fun k => k = b) w w' := ⟨h.os, h.tape, h.output, by rw [h.size]; exact Nat.le_refl _, fun k _ hn => h.other k hn⟩
theorem Free.below' {w w' : World} {b : Nat} (f : Free w b) (hl : b < w.heap.size) (hb : Below w.heap.size w w') : Free w' b := fun o => (hb.frozen (p := ⟨b, o, none⟩) hl).trans (f o)
theorem FloodAt.gt {w : World} {fb gb cb : Nat} {W H V : Int} {bl : Nat → Bool} {F : Int → Option (Int × Int)} {n : Nat} (f : FloodAt w fb gb cb W H V bl F n) : 0 < w.heap.size := f.blocks.2.2.2

/-- the two arrays that come back, laid in memory -/
theorem lab_laid (w : World) (F : Int → Option (Int × Int)) :
    ((w.alloc (.cells zC 45)).alloc (.cells zB 46)).there w.heap.size 0 512 ∧ (((w.alloc (.cells zC 45)).alloc (.cells zB 46)).setCells w.heap.size 0 (costL F)).there (w.heap.size + 1) 0 256 ∧
      LabAt ((((w.alloc (.cells zC 45)).alloc (.cells zB 46)).setCells w.heap.size 0 (costL F)).setCells (w.heap.size + 1) 0 (isL F)) w.heap.size (w.heap.size + 1) F ∧
      Below w.heap.size w ((((w.alloc (.cells zC 45)).alloc (.cells zB 46)).setCells w.heap.size 0 (costL F)).setCells (w.heap.size + 1) 0 (isL F)) := by
  have L := LabAt.new w
  have hB : Below w.heap.size w ((w.alloc (.cells zC 45)).alloc (.cells zB 46)) := ((Below.refl _ _).alloc (Nat.le_refl _) _).alloc (by simp) _
  have t0 : ((w.alloc (.cells zC 45)).alloc (.cells zB 46)).there w.heap.size 0 512 := World.there_alloc (new_there w (List.replicate 512 (Value.int .i64 0)) 45 512 List.length_replicate) _
  have t1 : ((w.alloc (.cells zC 45)).alloc (.cells zB 46)).there (w.heap.size + 1) 0 256 := by
    have := new_there (w.alloc (.cells zC 45)) (List.replicate 256 (Value.bool false)) 46 256 List.length_replicate
    rw [show (w.alloc (.cells zC 45)).heap.size = w.heap.size + 1 by simp] at this
    exact this
  have t2 : (((w.alloc (.cells zC 45)).alloc (.cells zB 46)).setCells w.heap.size 0 (costL F)).there (w.heap.size + 1) 0 256 := World.there_setCells t1 _ _ _
  refine ⟨t0, t2, ?_, below_setCells _ (by omega) _ _ (below_setCells _ (Nat.le_refl _) _ _ hB)⟩
  refine labAt_range ?_ ?_ (fun o => ?_) (fun o => ?_) (by omega)
  · exact World.rangeAt_setCells_apart (World.rangeAt_setCells_same _ _ _ _ (by rw [costL_len]; exact t0)) _ _ _ (Or.inl (by omega))
  · exact World.rangeAt_setCells_same _ _ _ _ (by rw [isL_len]; exact t2)
  · rw [World.frozen?_setCells, World.frozen?_setCells]; exact L.zc o
  · rw [World.frozen?_setCells, World.frozen?_setCells]; exact L.zi o

theorem th_of {w : World} {b o n : Nat} {l : List Value} (hl : l.length = n) (h : w.there b o n) : w.there b o l.toArray.size := by rw [List.size_toArray, hl]; exact h
theorem in_of {P : Program} {t : TypeId} {n : Nat} {l : List Value} (hl : l.length = n) (h : (P.info? t).map (·.size) = some n) : (P.info? t).map (·.size) = some l.toArray.size := by rw [List.size_toArray, hl]; exact h

set_option maxHeartbeats 8000000 in
set_option maxRecDepth 1000000 in
theorem floodSays_ok (W H : Int) (A B : Option Addr) (n cap k cb : Nat) (xs ys : Nat → Int) (c : Int) (w : World) (s : StepsAt w) (h0 : 0 < w.heap.size) (hn : ¬ 300 < (n : Int)) (h : sideB W = true) (hh : sideB H = true) (hx : OldRow w A n xs) (hk : ¬ 300 < (k : Int)) (hy : OldRow w B k ys) :
    Calls Tryd.prog 3 #[.agg #[.int .i64 W, .int .i64 H, .slice A n cap], .int .i64 c, .slice B k cb] w fun e w' => e = .returned (.bool true) ∧ Below w.heap.size w w' := by
  have hb : Below w.heap.size w (w.alloc (.cells #[.int .i64 W, .int .i64 H, .slice A n cap] 24)) := (Below.refl _ _).alloc (Nat.le_refl _) _
  have hs := s.below hb h0
  go_enter Tryd.func3, Tryd.ntmps3
  go_wp2_with (first | (go_at_call 9; refine (floods_any _ hs).mono ?_; rintro e w1 ⟨rfl, hb1⟩; obtain ⟨p0, p1, p2⟩ := boxedF w W H A n cap hb1))
  have HB1 : Below w.heap.size w w1 := hb.trans (hb1.mono (by simp))
  have hza : w.heap.size < w1.heap.size := World.block_lt_of_cell? w1 _ p0
  refine (laid_ok W H A n cap xs w1 (by omega) h hh (hx.below HB1)).mono ?_
  rintro e w2 ⟨rfl, hb2, hz2, V, bl, hV, hB⟩
  have HB : Below w.heap.size w w2 := HB1.trans (hb2.mono HB1.size)
  have s2 := s.below HB h0
  have hle := HB1.size
  clear p0 p1 p2 hb2 HB1 hx hn h hh hb hs hb1
  generalize hGe : w1.heap.size + 1 = G at *
  generalize hMe : G + 1 = M at *
  have hGl : G < w2.heap.size := by omega
  have hMl : M < w2.heap.size := by omega
  have hGn : w.heap.size ≤ G := by omega
  have hMG : G ≠ M := by omega
  have G2 := hB.ga
  have F2 := hB.gf
  have R2 := hB.ra
  have hv0 := hB.v1
  have w1' := hB.ra.w1
  have w2' := hB.ra.w2
  have h1' := hB.ra.h1
  have h2' := hB.ra.h2
  obtain ⟨kk1, kk2⟩ := wh_bd w1' w2' h1' h2'
  clear hB hz2 hle hGe hMe hza
  go_wp2_with fail
  refine (walk_any w2 G2 s2 hGl (hy.below HB) (by omega)).mono ?_
  rintro e w3 ⟨rfl, hb3⟩
  have hf0 := wkV_pos W H bl ys k
  have hrw := fun w' g hl hx => rwalk_any (b := M) (n := k) (cap := cb) (A := B) (W := W) (H := H) (V := V) (bl := bl) (xs := ys) w' g hl hx (by omega)
  generalize (wkV W H bl ys k).1.1 = c1 at *
  generalize (wkV W H bl ys k).1.2 = c2 at *
  generalize (wkV W H bl ys k).2 = f at *
  have Sl1 := Slot.new w3 c1 c2
  have hb4 : Below w2.heap.size w2 (w3.alloc (.cells #[.int .i64 c1, .int .i64 c2] 31)) := hb3.alloc hb3.size _
  go_wp2_with fail
  have hy4 := hy.below (HB.trans (hb4.mono HB.size))
  refine (hrw _ (R2.below hb4 hMl) (Nat.lt_of_lt_of_le hMl hb4.size) hy4).mono ?_
  rintro e w5 ⟨rfl, hb5⟩
  have Sl2 := Sl1.below hb5
  have hb6 : Below w2.heap.size w2 (w5.alloc (.cells #[.int .i64 c1, .int .i64 c2] 31)) := (hb4.trans (hb5.mono hb4.size)).alloc (hb4.trans (hb5.mono hb4.size)).size _
  have Sl3 := Sl2.below ((Below.refl w5.heap.size w5).alloc (Nat.le_refl _) (.cells #[.int .i64 c1, .int .i64 c2] 31))
  have x0 := Sl3.c0
  have x1 := Sl3.c1
  go_wp2_with (go_at_call 13; refine (same_ev f _ hf0).mono ?_; rintro e w' ⟨rfl, rfl⟩)
  have G6 := G2.below hb6 hGl
  have F6 : Free _ G := F2.below' hGl hb6
  have R6 := R2.below hb6 hMl
  have hz6 := hb6.size
  have s6 := s2.below hb6 s2.pos
  have HB6 := HB.trans (hb6.mono HB.size)
  clear Sl1 Sl2 Sl3 x0 x1 hb3 hb4 hb5 hb6 hrw hy hy4 G2 F2 R2 s2 s HB hf0
  generalize w5.alloc (.cells #[.int .i64 c1, .int .i64 c2] 31) = w6 at *
  cases hin : inB W H c with
  | false =>
    have hff : ffv W H bl c = 1 := by unfold ffv; rw [hin]; rfl
    have hfa := fun w' g => ff_any (b := M) (V := V) (W := W) (H := H) (bl := bl) c w' g
    rw [hff] at hfa
    refine (from_out c w6 G6 hin).mono ?_
    rintro e w7 ⟨rfl, m, rfl⟩
    go_wp2_with (first | (go_at_call 15; refine (hfa _ (R6.drewN m)).mono ?_; rintro e w8 ⟨rfl, hb8⟩) | (go_at_call 13; refine (same_err 1 _ (by decide)).mono ?_; rintro e w' ⟨rfl, rfl⟩))
    go_ret
    exact ⟨rfl, (below_drewN HB6 m).trans (hb8.mono HB6.size)⟩
  | true =>
    have hcc : 0 ≤ c ∧ c < W * H := of_decide_eq_true hin
    obtain ⟨cN, rfl⟩ : ∃ cN : Nat, c = cN := ⟨c.toNat, by omega⟩
    obtain ⟨cc1, cc2⟩ := hcc
    cases hbl : bl cN with
    | true =>
      have hff : ffv W H bl (cN : Int) = 4 := by unfold ffv; rw [hin, Int.toNat_natCast, hbl]; rfl
      have hfa := fun w' g => ff_any (b := M) (V := V) (W := W) (H := H) (bl := bl) (cN : Int) w' g
      rw [hff] at hfa
      refine (from_bl cN w6 G6 hin hbl).mono ?_
      rintro e w7 ⟨rfl, m, rfl⟩
      go_wp2_with (first | (go_at_call 15; refine (hfa _ (R6.drewN m)).mono ?_; rintro e w8 ⟨rfl, hb8⟩) | (go_at_call 13; refine (same_err 4 _ (by decide)).mono ?_; rintro e w' ⟨rfl, rfl⟩))
      go_ret
      exact ⟨rfl, (below_drewN HB6 m).trans (hb8.mono HB6.size)⟩
    | false =>
      have hff : ffv W H bl (cN : Int) = 0 := by unfold ffv; rw [hin, Int.toNat_natCast, hbl]; rfl
      have hfa := fun w' g => ff_any (b := M) (V := V) (W := W) (H := H) (bl := bl) (cN : Int) w' g
      rw [hff] at hfa
      refine (from_ok cN w6 G6 s6 hin hbl).mono ?_
      rintro e w7 ⟨fb, gb, cb', F, rfl, FA, BA, q1, q2, q3, hb7⟩
      have R7 := R6.below hb7 (by omega)
      go_wp2_with (first | (go_at_call 15; refine (hfa _ R7).mono ?_; rintro e w8 ⟨rfl, hb8⟩))
      have hb78 : Below w6.heap.size w6 w8 := hb7.trans (hb8.mono hb7.size)
      have FA8 := FA.below hb8
      have G8 := G6.below hb78 (by omega)
      have F8 : Free w8 G := F6.below' (by omega) hb78
      have R8 := R6.below hb78 (by omega)
      have HB8 := HB6.trans (hb78.mono HB6.size)
      have hz8 := hb78.size
      refine (set_new cN true w8 G8 F8 hin hbl hv0 (by omega)).mono ?_
      rintro e w9 ⟨rfl, T9, _, _⟩
      have FA9 : FloodAt w9 fb gb cb' W H V bl F (cnt F (W * H).toNat) := FA8.keep T9.keep (by omega) (by omega) (by omega) (by omega)
      have R9 := R8.touch T9 (by omega)
      have HB9 := T9.below HB8 hGn
      have hz9 := T9.size
      clear FA8 G8 F8 R8 T9 FA R7 hb7 hb8 hb78 G6 F6 R6 s6 HB6 HB8 hfa
      go_wp2_with fail
      refine (rflood_any cN w9 R9 (by omega) hin).mono ?_
      rintro e w10 ⟨F', rfl, B', hb10⟩
      have eF : F' = F := B'.unique BA
      subst eF
      have FA10 := FA9.below hb10
      have R10 := R9.below hb10 (by omega)
      have HB10 := HB9.trans (hb10.mono HB9.size)
      obtain ⟨t54, t55, LA, hbL⟩ := lab_laid w10 F'
      have o1 := costL_one F'
      have o2 := isL_one F'
      have hcl := costL_len F'
      have hil := isL_len F'
      have S11 : FS ((((w10.alloc (.cells zC 45)).alloc (.cells zB 46)).setCells w10.heap.size 0 (costL F')).setCells (w10.heap.size + 1) 0 (isL F')) fb gb cb' M w10.heap.size (w10.heap.size + 1) W H V bl F' := ⟨FA10.below hbL, R10.below hbL (World.block_lt_of_cell? w10 _ R10.c0), LA⟩
      have HB11 := HB10.trans (hbL.mono HB10.size)
      clear FA9 R9 FA10 R10 HB9 HB10 LA hbL hb10 B'
      generalize costL F' = cs at *
      generalize isL F' = is' at *
      have hsc := run_storeCells_cells (P := Tryd.prog) (w10.heap.size + 1) 0 is' 0 (((w10.alloc (.cells zC 45)).alloc (.cells zB 46)).setCells w10.heap.size 0 cs) (fun j hj => by simpa using (t55 j (by omega)).1) (fun j hj => by simpa using (t55 j (by omega)).2) o2
      simp only [Nat.add_zero] at hsc
      go_wp2_with (first | (refine wpList_alloc54 rfl rfl ?_) | (refine wpList_alloc55 rfl rfl ?_) | (refine wpList_store_mid rfl 45 _ _ rfl _ _ cs.toArray rfl rfl (th_of hcl t54) (in_of hcl info54) (all_oneCell_toArray o1) ?_) | (refine wpList_store_mid rfl 46 _ _ rfl _ _ is'.toArray rfl rfl (th_of hil t55) (in_of hil info55) (all_oneCell_toArray o2) ?_))
      clear hsc o1 o2 hcl hil t54 t55
      generalize (((w10.alloc (.cells zC 45)).alloc (.cells zB 46)).setCells w10.heap.size 0 cs).setCells (w10.heap.size + 1) 0 is' = wL at *
      generalize w10.heap.size = WB at *
      generalize WB + 1 = IB at *
      obtain ⟨N, hN⟩ : ∃ N : Nat, W * H = N := ⟨(W * H).toNat, by omega⟩
      have HN : Hid (W * H = N) := hN
      clear hN
      go_loopg [19, 20] (N + 2) (fun gk mv iv wr => ∃ (a : Int) (q : Nat), -1 ≤ a ∧ a ≤ W * H + 1 ∧ gk = N + 2 - (a + 1).toNat ∧ mv = .int .i64 q ∧ iv = .int .i64 a ∧ q = cnt F' (min a.toNat N) ∧ FS wr fb gb cb' M WB IB W H V bl F' ∧ Below w.heap.size w wr)
      case atStart => exact ⟨-1, 0, by omega, by omega, rfl, rfl, rfl, by rw [show min (-1 : Int).toNat N = 0 from Nat.zero_min _]; rfl, S11, HB11⟩
      case round =>
        clear S11 HB11
        obtain ⟨a, q, a1, a2, hgk, rfl, rfl, hq, S, HB⟩ := hrel
        have HG : Hid (gk = N + 2 - (a + 1).toNat) := hgk
        have HQ : Hid (q = cnt F' (min a.toNat N)) := hq
        have hq256 : q ≤ 256 := by have := cnt_le F' (min a.toNat N); have := HN.out; omega
        clear hgk hq
        have c0 := S.ra.c0
        have c1' := S.ra.c1
        by_cases hle : a ≤ W * H
        · go_wp2
          go_quiet (fail)
          have S1 := S.below (below_drewN (Below.refl wr.heap.size wr) nq)
          have HB1 := below_drewN HB nq
          clear S HB c0 c1'
          generalize wr.drewN nq = w4 at *
          cases hia : inB W H a with
          | false =>
            have hout : ¬ (0 ≤ a ∧ a < W * H) := of_decide_eq_false hia
            have hq' : Hid (q = cnt F' (min (a + 1).toNat N)) := by
              show q = _
              rw [HQ.out]
              have := HN.out
              congr 1
              omega
            go_wp2_with fail
            refine (fcost_out a w4 S1.fl hia).mono ?_
            rintro e w5 ⟨rfl, hb5⟩
            have S2 := S1.below (hb5.alloc hb5.size (.cells #[.int .i64 0, .int .i64 0] 31))
            have HB2 := HB1.trans ((hb5.alloc hb5.size (.cells #[.int .i64 0, .int .i64 0] 31)).mono HB1.size)
            have Sl := Slot.new w5 0 0
            clear S1 HB1 hb5
            go_wp2_with fail
            generalize w5.alloc (.cells #[.int .i64 0, .int .i64 0] 31) = w6 at *
            refine (way_out a w6 S2.fl hia).mono ?_
            rintro e w7 ⟨rfl, hb7⟩
            have S3 := S2.below hb7
            have HB3 := HB2.trans (hb7.mono HB2.size)
            have Sl3 := Sl.below hb7
            have x0 := Sl3.c0
            have x1 := Sl3.c1
            clear S2 HB2 hb7 Sl
            go_wp2_with (first | (go_at_call 20; refine (ris_out _ _ S3.ra hia).mono ?_; rintro e w8 ⟨rfl, m, rfl⟩) | (go_at_call 13; refine (same_err 1 _ (by decide)).mono ?_; rintro e w' ⟨rfl, rfl⟩))
            go_roundg (N + 2 - (a + 1 + 1).toNat)
            case measure => have := HG.out; have := HN.out; omega
            case rel => exact ⟨a + 1, q, by omega, by omega, rfl, rfl, rfl, hq'.out, S3.below (below_drewN (Below.refl _ _) _), below_drewN HB3 _⟩
          | true =>
            have hac : 0 ≤ a ∧ a < W * H := of_decide_eq_true hia
            obtain ⟨aN, rfl⟩ : ∃ aN : Nat, a = aN := ⟨a.toNat, by omega⟩
            obtain ⟨b1, b2⟩ := hac
            have b3 : (aN : Int) < 256 := by omega
            have haB : aN < 256 := by omega
            have hmin : min ((aN : Int) + 1).toNat N = aN + 1 ∧ min (aN : Int).toNat N = aN := by have := HN.out; omega
            cases hFa : F' (aN : Int) with
            | none =>
              have hq' : Hid (q = cnt F' (min ((aN : Int) + 1).toNat N)) := by
                show q = _
                rw [HQ.out, hmin.1, hmin.2]
                show _ = cnt F' aN + _
                rw [hFa]; rfl
              go_wp2_with fail
              refine (fcost_none aN w4 S1.fl hia hFa).mono ?_
              rintro e w5 ⟨rfl, hb5⟩
              have S2 := S1.below (hb5.alloc hb5.size (.cells #[.int .i64 0, .int .i64 0] 31))
              have HB2 := HB1.trans ((hb5.alloc hb5.size (.cells #[.int .i64 0, .int .i64 0] 31)).mono HB1.size)
              have Sl := Slot.new w5 0 0
              clear S1 HB1 hb5
              go_wp2_with fail
              generalize w5.alloc (.cells #[.int .i64 0, .int .i64 0] 31) = w6 at *
              refine (way_none aN w6 S2.fl hia hFa).mono ?_
              rintro e w7 ⟨rfl, hb7⟩
              have S3 := S2.below hb7
              have HB3 := HB2.trans (hb7.mono HB2.size)
              have Sl3 := Sl.below hb7
              have x0 := Sl3.c0
              have x1 := Sl3.c1
              have x2 := S3.lab.i0 aN haB
              rw [hFa] at x2
              have x2 : w7.cell? ⟨IB, aN, none⟩ = some (.bool false) := x2
              clear S2 HB2 hb7 Sl hmin
              go_wp2_with (first | (go_at_call 20; refine (ris_in _ _ S3.ra hia).mono ?_; rintro e w8 ⟨rfl, m, rfl⟩) | (go_at_call 13; refine (same_err 5 _ (by decide)).mono ?_; rintro e w' ⟨rfl, rfl⟩))
              go_roundg (N + 2 - ((aN : Int) + 1 + 1).toNat)
              case measure => have := HG.out; have := HN.out; omega
              case rel => exact ⟨(aN : Int) + 1, q, by omega, by omega, rfl, rfl, rfl, hq'.out, S3.below (below_drewN (Below.refl _ _) _), below_drewN HB3 _⟩
            | some p =>
              obtain ⟨s', d'⟩ := p
              have hq' : Hid (q + 1 = cnt F' (min ((aN : Int) + 1).toNat N)) := by
                show q + 1 = _
                rw [HQ.out, hmin.1, hmin.2]
                show _ = cnt F' aN + _
                rw [hFa]; rfl
              go_wp2_with fail
              refine (fcost_some aN w4 S1.fl hia hFa).mono ?_
              rintro e w5 ⟨rfl, hb5⟩
              have S2 := S1.below (hb5.alloc hb5.size (.cells #[.int .i64 s', .int .i64 d'] 31))
              have HB2 := HB1.trans ((hb5.alloc hb5.size (.cells #[.int .i64 s', .int .i64 d'] 31)).mono HB1.size)
              have Sl := Slot.new w5 s' d'
              clear S1 HB1 hb5
              go_wp2_with fail
              generalize w5.alloc (.cells #[.int .i64 s', .int .i64 d'] 31) = w6 at *
              generalize w5.heap.size = DB at *
              refine (way_some aN w6 S2.fl BA hia hFa).mono ?_
              rintro e w7 ⟨gl, capl, L, zs, rfl, hrow, hL0, hL1, z0, z1, htr, hb7⟩
              have S3 := S2.below hb7
              have HB3 := HB2.trans (hb7.mono HB2.size)
              have Sl3 := Sl.below hb7
              have x2 := S3.lab.i0 aN haB
              rw [hFa] at x2
              have x2 : w7.cell? ⟨IB, aN, none⟩ = some (.bool true) := x2
              have hwk := trail_cost w1' BA hin (by rw [Int.toNat_natCast]; exact hbl) z0 htr hL0 (by rw [z1]; exact hFa)
              have hrw := fun w' g hl hx => rwalk_any (b := M) (n := L) (cap := capl) (A := some ⟨gl, 0, none⟩) (W := W) (H := H) (V := V) (bl := bl) (xs := zs) w' g hl hx hL1
              rw [hwk] at hrw
              clear S2 HB2 hb7 Sl hmin hwk htr
              go_wp2_with (first | (go_at_call 20; refine (ris_in _ _ S3.ra hia).mono ?_; rintro e w8 ⟨rfl, m, hw8⟩; have S3 : FS w8 fb gb cb' M WB IB W H V bl F' := (by rw [hw8]; exact S3.below (below_drewN (Below.refl _ _) m)); have HB3 : Below w.heap.size w w8 := (by rw [hw8]; exact below_drewN HB3 m); have Sl3 : Slot w8 DB s' d' := (by rw [hw8]; exact Sl3.below (below_drewN (Below.refl _ _) m)); have hrow : OldRow w8 (some ⟨gl, 0, none⟩) L zs := (by rw [hw8]; exact hrow.drewN m); have x2 : w8.cell? ⟨IB, aN, none⟩ = some (.bool true) := (by rw [hw8]; exact x2); clear hw8) | (go_at_call 13; refine (same_nil _).mono ?_; rintro e w' ⟨rfl, rfl⟩))
              refine (hrw _ S3.ra S3.lt hrow).mono ?_
              rintro e w9 ⟨rfl, hb9⟩
              have B9 := hb9.alloc hb9.size (.cells #[.int .i64 s', .int .i64 d'] 31)
              have S4 := S3.below B9
              have HB4 := HB3.trans (B9.mono HB3.size)
              have SlA := Sl3.below B9
              have SlB := Slot.new w9 s' d'
              have hrow4 := hrow.below B9
              clear S3 HB3 Sl3 hrow B9 hb9 hrw x2
              go_wp2
              generalize w9.alloc (.cells #[.int .i64 s', .int .i64 d'] 31) = wA at *
              generalize w9.heap.size = DB2 at *
              obtain ⟨bA, oA, eA, _, r0⟩ := hrow4 0 hL0
              cases eA
              obtain ⟨bB, oB, eB, _, r1⟩ := hrow4 (L - 1) (by omega)
              cases eB
              rw [z0] at r0
              rw [z1] at r1
              have r0 : wA.cell? ⟨gl, 0, none⟩ = some (.int .i64 (cN : Int)) := r0
              have r1 : wA.cell? ⟨gl, L - 1, none⟩ = some (.int .i64 (aN : Int)) := by rw [Nat.zero_add] at r1; exact r1
              have y0 := SlA.c0
              have y1 := SlA.c1
              have y2 := SlB.c0
              have y3 := SlB.c1
              have y4 := S4.lab.c0 aN haB
              have y5 := S4.lab.c1 aN haB
              rw [(lab_some hFa).1] at y4
              rw [(lab_some hFa).2] at y5
              have hti : ((L : Int) - 1).toNat = L - 1 := by omega
              have j1 : (0 : Int) ≤ (L : Int) - 1 := by omega
              have j2 : (L : Int) - 1 < (L : Int) := by omega
              have j3 : (0 : Int) < (L : Int) := by omega
              clear SlA SlB hrow4 z0 z1
              go_quiet (fail)
              go_wp2
              go_roundg (N + 2 - ((aN : Int) + 1 + 1).toNat)
              case measure => have := HG.out; have := HN.out; omega
              case rel => exact ⟨(aN : Int) + 1, q + 1, by omega, by omega, rfl, by go_num, rfl, hq'.out, S4.below (below_drewN (Below.refl _ _) _), below_drewN HB4 _⟩
        · have hre : cnt F' (W * H).toNat = q := by
            rw [HQ.out]
            have := HN.out
            congr 1
            omega
          have hreach := fun w' f => reached_any (fb := fb) (gb := gb) (cb := cb') (n := cnt F' (W * H).toNat) (W := W) (H := H) (V := V) (bl := bl) (F := F') w' f
          rw [hre] at hreach
          have hfl := S.fl
          rw [hre] at hfl
          clear hre
          go_wp2
          go_quiet (fail)
          have fl1 := hfl.below (below_drewN (Below.refl wr.heap.size wr) nq)
          have HB1 := below_drewN HB nq
          clear hfl S HB c0 c1'
          generalize wr.drewN nq = w4 at *
          go_wp2_with (go_at_call 21; refine (hreach _ fl1).mono ?_; rintro e w' ⟨rfl, rfl⟩)
          go_ret
          exact ⟨rfl, HB1⟩
end Go.Proofs.YtfhicijgpdpfpaaDoor
