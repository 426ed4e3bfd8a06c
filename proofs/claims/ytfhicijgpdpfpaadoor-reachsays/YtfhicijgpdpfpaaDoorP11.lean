/-
  Texts laid together: WalkR, RefM, BackF, BackA.
-/
import Derived.Test.YtfhicijgpdpfpaaDoorP10
/-
  What a walk costs: the reference's.
-/
namespace Go.Proofs.YtfhicijgpdpfpaaDoor
open Go.RowKit

theorem step_inj {d e : Nat} (hd : d < 8) (he : e < 8) (hx : stepX d = stepX e) (hy : stepY d = stepY e) : d = e := by
  have h : ∀ d : Fin 8, ∀ e : Fin 8, stepX d = stepX e → stepY d = stepY e → d = e := by decide
  have := h ⟨d, hd⟩ ⟨e, he⟩ hx hy
  exact congrArg Fin.val this

/-- two directions that may be gone come to two cells -/
theorem one_dir {W H a : Int} {bl : Nat → Bool} {d e : Nat} (w1 : 1 ≤ W) (hd : d < 8) (he : e < 8) (md : mayB W H bl (a % W) (a / W) d = true) (me : mayB W H bl (a % W) (a / W) e = true) (h : a + (stepY d * W + stepX d) = a + (stepY e * W + stepX e)) : d = e := by
  have key : ∀ {k : Nat}, mayB W H bl (a % W) (a / W) k = true → (a + (stepY k * W + stepX k)) % W = a % W + stepX k ∧ (a + (stepY k * W + stepX k)) / W = a / W + stepY k := by
    intro k mk
    obtain ⟨_, o2, _, _⟩ := may_parts mk
    obtain ⟨a1, a2, a3, a4⟩ := open_in o2
    have e : a + (stepY k * W + stepX k) = (a / W + stepY k) * W + (a % W + stepX k) := by
      have := cell_eq W a
      rw [Int.add_mul]
      omega
    obtain ⟨p1, p2, p3⟩ := place_to (H := H) w1 a1 a2 a3 a4
    rw [e, p2, p3]
    exact ⟨rfl, rfl⟩
  obtain ⟨k1, k2⟩ := key md
  obtain ⟨j1, j2⟩ := key me
  rw [h] at k1 k2
  exact step_inj hd he (by omega) (by omega)

/-- does a direction come to this cell? -/
def hitB (W a t : Int) (d : Nat) : Bool := a + (stepY d * W + stepX d) == t

theorem find_dirs {W H a t : Int} {bl : Nat → Bool} {l : List Nat} (hl : DirsOf W H bl a l) : l.find? (hitB W a t) = stepD W H bl a t := by
  rw [← hl.eq]
  unfold mvs stepD
  rw [List.find?_filter]
  congr 1
  funext d
  unfold hitB
  rw [Bool.eq_iff_iff]
  simp

theorem take_find {l : List Nat} {p : Nat → Bool} {q : Nat} (hq : q < l.length) : (l.take (q + 1)).find? p = ((l.take q).find? p).or (if p (l.getD q 0) then some (l.getD q 0) else none) := by
  rw [List.take_add_one, List.find?_append, List.getElem?_eq_getElem hq, getD_at _ _ hq]
  simp

theorem take_once {W H a t : Int} {bl : Nat → Bool} {l : List Nat} {q k : Nat} (w1 : 1 ≤ W) (hl : DirsOf W H bl a l) (hq : q < l.length) (h : (l.take q).find? (hitB W a t) = some k) : hitB W a t (l.getD q 0) = false := by
  cases hh : hitB W a t (l.getD q 0) with
  | false => rfl
  | true =>
    exfalso
    have hk : hitB W a t k = true := List.find?_some h
    have hmem := List.mem_of_find?_eq_some h
    obtain ⟨j, hj, hjk⟩ := List.mem_iff_getElem.mp hmem
    rw [List.length_take] at hj
    rw [List.getElem_take] at hjk
    have mk : ∀ i (hi : i < l.length), l[i] < 8 ∧ mayB W H bl (a % W) (a / W) l[i] = true := fun i hi => by
      have hi' : i < (mvs W H bl (a % W) (a / W) 8).length := by rw [hl.eq]; exact hi
      have := mvs_at hi'
      rw [hl.eq, getD_at _ _ hi] at this
      exact this
    have hjl : j < l.length := by omega
    obtain ⟨a1, a2⟩ := mk j hjl
    obtain ⟨b1, b2⟩ := mk q hq
    unfold hitB at hh hk
    rw [getD_at _ _ hq] at hh
    rw [beq_iff_eq] at hh hk
    rw [← hjk] at hk
    have := one_dir w1 a1 b1 a2 b2 (by rw [hk, hh])
    have hs := mvs_sorted W H (a % W) (a / W) bl 8
    rw [hl.eq, List.pairwise_iff_getElem] at hs
    have := hs j q hjl hq (by omega)
    omega

theorem rmoves_b {b : Nat} {W H V c : Int} {bl : Nat → Bool} {l : List Nat} (hl : DirsOf W H bl c l) (w : World) (g : RefAt w b W H V bl) (hr : inB W H c = true) (hb : b < w.heap.size) :
    Calls Tryd.prog 24 #[.pointer (some ⟨b, 0, none⟩), .int .i64 c] w fun e w' => ∃ A cap, e = .returned (.slice A l.length cap) ∧ (OldRow w' A l.length (fun i => (l.getD i 0 : Nat)) ∧ ∀ g o, A = some ⟨g, o, none⟩ → w.heap.size ≤ g) ∧ Below w.heap.size w w' :=
  (rmoves_in c w g hr hb).mono fun e w' ⟨v, he, hown, hbl⟩ => by
    rw [hl.eq] at hown
    obtain ⟨A, cap, rfl, hrow⟩ := row_of hown
    refine ⟨A, cap, he, ⟨hrow, fun g o e => ?_⟩, hbl⟩
    rcases hown.2 with ⟨hv, _⟩ | ⟨g', cap', cur, hv, hg, _⟩
    · simp only [Value.slice.injEq] at hv
      rw [hv.1] at e; cases e
    · simp only [Value.slice.injEq] at hv
      rw [hv.1] at e; cases e; exact hg

/-- what a walk costs behind a step that was found, or was not -/
def addO (s d : Int) (o : Option Nat) : Int × Int := match o with | none => (s, d) | some k => (s + stS k, d + stD k)

set_option maxHeartbeats 4000000 in
set_option maxRecDepth 1000000 in
theorem rwalk_any {b n cap : Nat} {A : Option Addr} {W H V : Int} {bl : Nat → Bool} {xs : Nat → Int} (w : World) (g : RefAt w b W H V bl) (hb : b < w.heap.size) (hx : OldRow w A n xs) (hn : n ≤ 1000) :
    Calls Tryd.prog 12 #[.pointer (some ⟨b, 0, none⟩), .slice A n cap] w fun e w' => e = .returned (.tuple #[.agg #[.int .i64 (wkV W H bl xs n).1.1, .int .i64 (wkV W H bl xs n).1.2], .int .i64 (wkV W H bl xs n).2]) ∧ Below w.heap.size w w' := by
  have R0 : Slot ((w.alloc (.cells #[.int .i64 0, .int .i64 0] 31)).alloc (.cells #[.int .i64 0, .int .i64 0] 31)) w.heap.size 0 0 := (Slot.new w 0 0).below ((Below.refl _ _).alloc (Nat.le_refl _) _)
  have S0 : Slot ((w.alloc (.cells #[.int .i64 0, .int .i64 0] 31)).alloc (.cells #[.int .i64 0, .int .i64 0] 31)) (w.heap.size + 1) 0 0 := by
    have := Slot.new (w.alloc (.cells #[.int .i64 0, .int .i64 0] 31)) 0 0
    have e : (w.alloc (.cells #[.int .i64 0, .int .i64 0] 31)).heap.size = w.heap.size + 1 := by simp
    rw [e] at this
    exact this
  have HB0 : Below w.heap.size w ((w.alloc (.cells #[.int .i64 0, .int .i64 0] 31)).alloc (.cells #[.int .i64 0, .int .i64 0] 31)) := ((Below.refl _ _).alloc (Nat.le_refl _) _).alloc (by simp) _
  have w1' := g.w1
  obtain ⟨kk1, kk2⟩ := wh_bd g.w1 g.w2 g.h1 g.h2
  go_enter Tryd.func12, Tryd.ntmps12
  go_wp2
  go_loopg [7] n (fun gk iv wr => ∃ (i : Nat) (c : Int × Int), i ≤ n ∧ gk = n - i ∧ iv = .int .i64 i ∧ wkS W H bl xs i = .ok c ∧ Slot wr w.heap.size 0 0 ∧ Slot wr (w.heap.size + 1) c.1 c.2 ∧ Below w.heap.size w wr)
  case atStart => exact ⟨0, (0, 0), by omega, rfl, rfl, rfl, R0, S0, HB0⟩
  case round =>
    clear R0 S0 HB0
    obtain ⟨i, ⟨s1, d1⟩, hi, hgk, rfl, hw, R, S, HB⟩ := hrel
    have HG : Hid (gk = n - i) := hgk
    clear hgk
    have gr := g.below HB hb
    have hbd := wkS_bd hw
    simp only at hbd S
    by_cases hlt : i < n
    · have hlt' : (i : Int) < (n : Int) := by omega
      obtain ⟨ba, oa, rfl, hba, hcell⟩ := hx i hlt
      have ci : wr.cell? ⟨ba, oa + i, none⟩ = some (.int .i64 (xs i)) := (HB.cell (p := ⟨ba, oa + i, none⟩) hba).trans hcell
      clear hcell
      have hck := ff_any (xs i) wr gr
      by_cases hf : ffv W H bl (xs i) = 0
      · rw [hf] at hck
        by_cases hi0 : i = 0
        · subst hi0
          have ci' : wr.cell? ⟨ba, oa, none⟩ = some (.int .i64 (xs 0)) := ci
          have hnx : wkS W H bl xs (0 + 1) = .ok (s1, d1) := by rw [wkS_next hw]; unfold wk1; rw [if_pos hf, if_pos rfl]
          go_wp2_with (go_at_call 15; refine hck.mono ?_; rintro e w1 ⟨rfl, hb1⟩)
          go_roundg (n - (0 + 1))
          case measure => have := HG.out; omega
          case rel => exact ⟨0 + 1, (s1, d1), by omega, rfl, by go_num, hnx, R.below hb1, S.below hb1, HB.trans (hb1.mono HB.size)⟩
        · have hib : ((i : Int) == 0) = false := by simp; omega
          have hie : ¬ (i : Int) = 0 := by omega
          have hin : inB W H (xs (i - 1)) = true := wkS_in (i := i - 1) (by rw [Nat.sub_add_cancel (by omega)]; exact hw)
          have hc2 : 0 ≤ xs (i - 1) ∧ xs (i - 1) < W * H := of_decide_eq_true hin
          obtain ⟨ba', oa', e, hba', hcell'⟩ := hx (i - 1) (by omega)
          cases e
          have cp : wr.cell? ⟨ba, oa + (i - 1), none⟩ = some (.int .i64 (xs (i - 1))) := (HB.cell (p := ⟨ba, oa + (i - 1), none⟩) hba).trans hcell'
          have hti : ((i : Int) - 1).toNat = i - 1 := by omega
          have j1 : (0 : Int) ≤ (i : Int) - 1 := by omega
          have j2 : (i : Int) - 1 < (n : Int) := by omega
          obtain ⟨l, hl⟩ := dirsOf (W := W) (H := H) bl (xs (i - 1)) w1'
          clear hcell'
          go_wp2_with (go_at_call 15; refine hck.mono ?_; rintro e w1 ⟨rfl, hb1⟩; have cp := (hb1.cell (World.block_lt_of_cell? _ _ cp)).trans cp; have ci := (hb1.cell (World.block_lt_of_cell? _ _ ci)).trans ci)
          refine (rmoves_b hl w1 (gr.below hb1 (Nat.lt_of_lt_of_le hb HB.size)) hin (Nat.lt_of_lt_of_le (Nat.lt_of_lt_of_le hb HB.size) hb1.size)).mono ?_
          rintro e w2 ⟨A1, cap1, rfl, ⟨hrow, hnew⟩, hb2⟩
          have hnew1 : ∀ g o, A1 = some ⟨g, o, none⟩ → wr.heap.size ≤ g := fun g o e => Nat.le_trans hb1.size (hnew g o e)
          have hNr : w.heap.size + 1 < wr.heap.size := World.block_lt_of_cell? wr _ S.c0
          have hb12 : Below wr.heap.size wr w2 := hb1.trans (hb2.mono hb1.size)
          have R2 := R.below hb12
          have S2 := S.below hb12
          have HB2 := HB.trans (hb12.mono HB.size)
          have cp := (hb2.cell (World.block_lt_of_cell? _ _ cp)).trans cp
          have ci := (hb2.cell (World.block_lt_of_cell? _ _ ci)).trans ci
          clear R S hb1 hb2 hck gr hb12
          have hl8 := hl.len
          obtain ⟨L, hL⟩ : ∃ L, l.length = L := ⟨_, rfl⟩
          have HL : Hid (l.length = L) := hL
          rw [hL] at hrow hl8 ⊢
          clear hL
          have HC2 : Hid (0 ≤ xs (i - 1) ∧ xs (i - 1) < W * H) := hc2
          have hpb1 : -1000 ≤ xs (i - 1) := by omega
          have hpb2 : xs (i - 1) ≤ 1000 := by omega
          clear hc2
          go_wp2
          go_loopg [10, 11] L (fun gk fv kv wq => ∃ (q : Nat) (o : Option Nat), q ≤ L ∧ gk = L - q ∧ fv = .bool o.isSome ∧ kv = .int .i64 q ∧ (l.take q).find? (hitB W (xs (i - 1)) (xs i)) = o ∧ Slot wq w.heap.size 0 0 ∧ Slot wq (w.heap.size + 1) (addO s1 d1 o).1 (addO s1 d1 o).2 ∧ Keep (fun k => k = w.heap.size + 1) w2 wq)
          case atStart => exact ⟨0, none, by omega, rfl, rfl, rfl, rfl, R2, S2, Keep.refl _ _⟩
          case round =>
            clear R2 S2
            obtain ⟨q, o, hq, hgq, rfl, rfl, hfo, R3, S3, K3⟩ := hrel
            have HGq : Hid (gk = L - q) := hgq
            clear hgq
            have HB3 : Below w.heap.size w wr := HB2.trans (K3.to_below HB2.size (fun k hk => by omega))
            have g3 := g.below HB3 hb
            have cp3 : wr.cell? ⟨ba, oa + (i - 1), none⟩ = some (.int .i64 (xs (i - 1))) := K3.cellOf cp (by show ¬ ba = _; omega)
            have ci3 : wr.cell? ⟨ba, oa + i, none⟩ = some (.int .i64 (xs i)) := K3.cellOf ci (by show ¬ ba = _; omega)
            by_cases hqlt : q < L
            · have hqlt' : (q : Int) < (L : Int) := by omega
              have hq0 : (0 : Int) ≤ (q : Int) := by omega
              have hql : q < l.length := by rw [HL.out]; exact hqlt
              obtain ⟨bs, os, rfl, hbs, hcell⟩ := hrow q hqlt
              have hbn := hnew1 bs os rfl
              have cl : wr.cell? ⟨bs, os + q, none⟩ = some (.int .i64 ((l.getD q 0 : Nat) : Int)) := K3.cellOf hcell (by show ¬ bs = _; omega)
              clear hcell hrow
              have hd8 := hl.lt q hql
              have htf := take_find (p := hitB W (xs (i - 1)) (xs i)) hql
              rw [hfo] at htf
              cases hh : hitB W (xs (i - 1)) (xs i) (l.getD q 0) with
              | false =>
                rw [hh] at htf
                have htf' : (l.take (q + 1)).find? (hitB W (xs (i - 1)) (xs i)) = o := by rw [htf]; cases o <;> rfl
                unfold hitB at hh
                have hto := fun w g => rto_v (b := b) (W := W) (H := H) (V := V) (bl := bl) (c := xs (i - 1)) (d := l.getD q 0) rfl w g hd8 hpb1 hpb2
                generalize xs (i - 1) + (stepY (l.getD q 0) * W + stepX (l.getD q 0)) = r at *
                generalize l.getD q 0 = dk at *
                have hrt : ¬ r = xs i := by simpa using hh
                clear htf hh hfo
                go_wp2
                go_quiet ((go_at_call 48; exact Calls.quiet_of_same (hto _ (g3.drewN _))))
                go_wp2
                go_roundg (L - (q + 1))
                case measure => have := HGq.out; omega
                case rel => exact ⟨q + 1, o, by omega, rfl, rfl, by go_num, htf', R3.below (below_drewN (Below.refl _ _) _), S3.below (below_drewN (Below.refl _ _) _), K3.drewN _⟩
              | true =>
                cases o with
                | some k => exact absurd (take_once w1' hl hql hfo) (by rw [hh]; simp)
                | none =>
                  rw [hh] at htf
                  have htf' : (l.take (q + 1)).find? (hitB W (xs (i - 1)) (xs i)) = some (l.getD q 0) := htf
                  unfold hitB at hh
                  have hto := fun w g => rto_v (b := b) (W := W) (H := H) (V := V) (bl := bl) (c := xs (i - 1)) (d := l.getD q 0) (r := xs i) (by simpa using hh) w g hd8 hpb1 hpb2
                  generalize l.getD q 0 = dk at *
                  clear htf hh hfo
                  go_wp2
                  go_quiet ((go_at_call 48; exact Calls.quiet_of_same (hto _ (g3.drewN _))))
                  go_wp2
                  have hrem : Int.tmod (dk : Int) 2 = stD dk := by unfold stD; rw [Int.tmod_eq_emod_of_nonneg (by omega)]; omega
                  have hsub : 1 - stD dk = stS dk := by unfold stS stD; omega
                  have hst := st_bd dk
                  have hok1 : okC s1 d1 := by unfold okC; omega
                  have hok2 : okC (stS dk) (stD dk) := by unfold okC; omega
                  have hadd := fun w => plus_any s1 d1 (stS dk) (stD dk) w hok1 hok2
                  have hu : IntKind.i64.wrap (stS dk) = stS dk := wrap_small (by omega) (by omega)
                  have S4 : Slot (wr.drewN nq).drew (w.heap.size + 1) s1 d1 := ⟨S3.c0, S3.c1, S3.z0, S3.z1⟩
                  have R4 : Slot (wr.drewN nq).drew w.heap.size 0 0 := ⟨R3.c0, R3.c1, R3.z0, R3.z1⟩
                  have K4 : Keep (fun k => k = w.heap.size + 1) w2 (wr.drewN nq).drew := (K3.drewN nq).drew
                  have cl : (wr.drewN nq).drew.cell? ⟨bs, os + q, none⟩ = some (.int .i64 (dk : Int)) := cl
                  have x0 := S4.c0
                  have x1 := S4.c1
                  have x2 := S4.z0
                  have x3 := S4.z1
                  clear S3 R3 K3 HB3 g3 cp3 ci3 hto
                  generalize wr.drewN nq = W4 at *
                  go_region_with (first | (go_at_call 42; refine (hadd _).mono ?_; rintro e w5 ⟨rfl, hb5⟩; have R4 := R4.below hb5; have S4 := S4.below hb5; have K4 := K4.below hb5; have x0 := S4.c0; have x1 := S4.c1; have x2 := S4.z0; have x3 := S4.z1))
                  all_goals
                    clear hadd x0 x1 x2 x3 cl
                    have S6 := S4.set (s1 + stS dk) (d1 + stD dk)
                    have R6 := R4.keep (set_keep _ (w.heap.size + 1) (s1 + stS dk) (d1 + stD dk)) (by omega)
                    have K6 := K4.trans (set_keep _ (w.heap.size + 1) (s1 + stS dk) (d1 + stD dk)) (fun _ _ h => h)
                    clear S4 R4 K4
                    go_wp2
                    go_roundg (L - (q + 1))
                    case measure => have := HGq.out; omega
                    case rel => exact ⟨q + 1, some dk, by omega, rfl, rfl, by go_num, htf', R6, S6, K6⟩
            · have : q = L := by omega
              subst this
              rw [List.take_of_length_le (by rw [HL.out]; exact Nat.le_refl _), find_dirs hl] at hfo
              clear cp3 ci3 cp ci
              cases o with
              | none =>
                have hnx : wkS W H bl xs (i + 1) = .error 7 := by rw [wkS_next hw]; unfold wk1; rw [if_pos hf, if_neg hi0, hfo]
                have hV := wkV_err hnx (by omega) (show 0 < n by omega)
                obtain ⟨x0, x1, x2, x3⟩ := R3
                go_wp2
                have r0 := setTwo wr w.heap.size 0 0 x0 x1
                exact bodyPost_ret (v := .tuple #[.agg #[.int .i64 0, .int .i64 0], .int .i64 7]) (by simp [results, Tryd.results12, go_sem, r0.1, r0.2]) rfl ⟨by rw [hV], (HB3.setCell (p := ⟨w.heap.size, 0, none⟩) (Nat.le_refl _) _).setCell (p := ⟨w.heap.size, 1, none⟩) (Nat.le_refl _) _⟩
              | some k =>
                have hnx : wkS W H bl xs (i + 1) = .ok (s1 + stS k, d1 + stD k) := by rw [wkS_next hw]; unfold wk1; rw [if_pos hf, if_neg hi0, hfo]
                go_wp2
                go_roundg (n - (i + 1))
                case measure => have := HG.out; omega
                case rel => exact ⟨i + 1, (s1 + stS k, d1 + stD k), by omega, rfl, by go_num, hnx, R3, S3, HB3⟩
      · have hnx : wkS W H bl xs (i + 1) = .error (ffv W H bl (xs i)) := by rw [wkS_next hw]; unfold wk1; rw [if_neg hf]
        have hV := wkV_err hnx (by omega) (show 0 < n by omega)
        have hpos : 0 < ffv W H bl (xs i) := by
          unfold ffv at hf ⊢
          split
          · rename_i h; rw [if_pos h] at hf
            split
            · omega
            · rename_i h2; rw [if_neg h2] at hf; omega
          · omega
        generalize ffv W H bl (xs i) = fv0 at *
        go_wp2_with (go_at_call 15; refine hck.mono ?_; rintro e w1 ⟨rfl, hb1⟩; have R := R.below hb1; have HB := HB.trans (hb1.mono HB.size); obtain ⟨x0, x1, x2, x3⟩ := R)
        have r0 := setTwo w1 w.heap.size 0 0 (Slot.mk x0 x1 x2 x3).c0 (Slot.mk x0 x1 x2 x3).c1
        exact bodyPost_ret (v := .tuple #[.agg #[.int .i64 0, .int .i64 0], .int .i64 fv0]) (by simp [results, Tryd.results12, go_sem, r0.1, r0.2]) rfl ⟨by rw [hV], (HB.setCell (p := ⟨w.heap.size, 0, none⟩) (Nat.le_refl _) _).setCell (p := ⟨w.heap.size, 1, none⟩) (Nat.le_refl _) _⟩
    · have : i = n := by omega
      subst this
      obtain ⟨y0, y1, y2, y3⟩ := R
      obtain ⟨x0, x1, x2, x3⟩ := S
      by_cases h00 : i = 0
      · subst h00
        have hV : wkV W H bl xs 0 = ((0, 0), 7) := rfl
        go_wp2
        have r0 := setTwo wr w.heap.size 0 0 (Slot.mk y0 y1 y2 y3).c0 (Slot.mk y0 y1 y2 y3).c1
        exact bodyPost_ret (v := .tuple #[.agg #[.int .i64 0, .int .i64 0], .int .i64 7]) (by simp [results, Tryd.results12, go_sem, r0.1, r0.2]) rfl ⟨by rw [hV], (HB.setCell (p := ⟨w.heap.size, 0, none⟩) (Nat.le_refl _) _).setCell (p := ⟨w.heap.size, 1, none⟩) (Nat.le_refl _) _⟩
      · have hV := wkV_ok hw (show 0 < i by omega)
        have hib : ((i : Int) == 0) = false := by simp; omega
        have hie : ¬ (i : Int) = 0 := by omega
        go_wp2
        have r0 := setTwo wr w.heap.size s1 d1 (Slot.mk y0 y1 y2 y3).c0 (Slot.mk y0 y1 y2 y3).c1
        exact bodyPost_ret (v := .tuple #[.agg #[.int .i64 s1, .int .i64 d1], .int .i64 0]) (by simp [results, Tryd.results12, go_sem, r0.1, r0.2]) rfl ⟨by rw [hV], (HB.setCell (p := ⟨w.heap.size, 0, none⟩) (Nat.le_refl _) _).setCell (p := ⟨w.heap.size, 1, none⟩) (Nat.le_refl _) _⟩
end Go.Proofs.YtfhicijgpdpfpaaDoor
/-
  A flood that looks anew at whatever has become nearer: what it comes to, and that it ends; no Go in sight.
-/
namespace Go.Proofs.YtfhicijgpdpfpaaDoor
variable {E : Int → Nat → Int → Prop} {o : Int} {N : Nat}

/-- what may still be saved -/
def pot (F : Int → Option (Int × Int)) : Nat → Int
  | 0 => 0
  | N + 1 => pot F N + (match F N with | some c => val c.1 c.2 | none => 13979748609)
/-- what one may save -/
def pot1 (c : Option (Int × Int)) : Int := match c with | some c => val c.1 c.2 | none => 13979748609
theorem pot_succ (F : Int → Option (Int × Int)) (N : Nat) : pot F (N + 1) = pot F N + pot1 (F N) := rfl
theorem pot_same (F : Int → Option (Int × Int)) (a s d : Int) (N : Nat) (h : (N : Int) ≤ a) : pot (putH F a s d) N = pot F N := by
  induction N with
  | zero => rfl
  | succ N ih =>
    rw [pot_succ, pot_succ, ih (by omega)]
    have : putH F a s d N = F N := if_neg (by omega)
    rw [this]
theorem pot_put (F : Int → Option (Int × Int)) (a s d : Int) (N : Nat) (h0 : 0 ≤ a) (h : a < N) : pot (putH F a s d) N = pot F N - pot1 (F a) + val s d := by
  induction N with
  | zero => omega
  | succ N ih =>
    rw [pot_succ, pot_succ]
    by_cases e : a = N
    · rw [pot_same F a s d N (by omega)]
      have : putH F a s d N = some (s, d) := if_pos e.symm
      rw [this, ← e]
      show _ + val s d = _
      omega
    · rw [ih (by omega)]
      have : putH F a s d N = F N := if_neg (fun q => e q.symm)
      rw [this]
      omega

/-- labels under way; ok: which edges have been looked at since their beginning's label was laid -/
structure Lab (E : Int → Nat → Int → Prop) (o : Int) (N : Nat) (F : Int → Option (Int × Int)) (ok : Int → Nat → Prop) : Prop where
  sound : ∀ {a s d}, F a = some (s, d) → Wk E o a s d ∧ val s d ≤ cnt F N * 54608393
  edge : ∀ {a b s d k}, F a = some (s, d) → E a k b → ok a k → ∃ s' d', F b = some (s', d') ∧ val s' d' ≤ val s d + val (stS k) (stD k)
  org : ∃ s d, F o = some (s, d) ∧ val s d ≤ 0
  dom : ∀ {a c}, F a = some c → 0 ≤ a ∧ a < N

theorem Lab.widen {F : Int → Option (Int × Int)} {ok ok' : Int → Nat → Prop} (h : Lab E o N F ok) (hk : ∀ {a k b s d}, F a = some (s, d) → E a k b → ok' a k → ok a k) : Lab E o N F ok' :=
  ⟨fun hx => h.sound hx, fun hx e hd => h.edge hx e (hk hx e hd), h.org, fun hx => h.dom hx⟩

theorem Lab.val_bd {F : Int → Option (Int × Int)} {ok : Int → Nat → Prop} (h : Lab E o N F ok) (hN : N ≤ 256) {a s d : Int} (ha : F a = some (s, d)) : 0 ≤ s ∧ 0 ≤ d ∧ val s d ≤ 13979748608 := by
  obtain ⟨h1, h2⟩ := h.sound ha
  obtain ⟨n1, n2⟩ := h1.nonneg
  have := cnt_le F N
  exact ⟨n1, n2, by omega⟩

theorem pot_nonneg {F : Int → Option (Int × Int)} (h : ∀ {a s d}, F a = some (s, d) → 0 ≤ val s d) (N : Nat) : 0 ≤ pot F N := by
  induction N with
  | zero => exact Int.le_refl _
  | succ N ih =>
    rw [pot_succ]
    cases hc : F N with
    | none => show 0 ≤ pot F N + 13979748609; omega
    | some c => obtain ⟨s, d⟩ := c; have := h hc; show 0 ≤ pot F N + val s d; omega

theorem Lab.pot0 {F : Int → Option (Int × Int)} {ok : Int → Nat → Prop} (h : Lab E o N F ok) : 0 ≤ pot F N :=
  pot_nonneg (fun hx => by obtain ⟨n1, n2⟩ := (h.sound hx).1.nonneg; unfold val; omega) N

theorem Lab.start (E : Int → Nat → Int → Prop) (o : Int) (N : Nat) (h0 : 0 ≤ o) (h1 : o < N) (ok : Int → Nat → Prop) (hk : ∀ k, ¬ ok o k) : Lab E o N (putH (fun _ => none) o 0 0) ok := by
  refine ⟨fun {a s d} h => ?_, fun {a b s d k} h _ hd => ?_, ⟨0, 0, if_pos rfl, by decide⟩, fun {a c} h => ?_⟩
  · unfold putH at h
    split at h
    · cases h; rename_i e; subst e
      have e0 : val 0 0 = 0 := by decide
      exact ⟨Wk.nil, by rw [e0]; omega⟩
    · cases h
  · unfold putH at h
    split at h
    · rename_i e; subst e; exact absurd hd (hk k)
    · cases h
  · unfold putH at h
    split at h
    · rename_i e; subst e; exact ⟨h0, h1⟩
    · cases h

theorem pot_start (o : Int) (N : Nat) (hN : N ≤ 256) (h0 : 0 ≤ o) (h1 : o < N) : pot (putH (fun _ => none) o 0 0) N ≤ 3578815643904 := by
  rw [pot_put _ _ _ _ _ h0 h1]
  have : ∀ n : Nat, pot (fun _ => none) n = n * 13979748609 := by
    intro n
    induction n with
    | zero => rfl
    | succ n ih => rw [pot_succ, ih]; show _ + 13979748609 = _; omega
  rw [this]
  show _ - 13979748609 + val 0 0 ≤ _
  have : val 0 0 = 0 := by decide
  omega

/-- a cell has become nearer -/
theorem Lab.nearer {F : Int → Option (Int × Int)} {pend : Int → Prop} {dn : Nat → Prop} {at' b s d : Int} {k : Nat} (hN : N ≤ 256) (h : Lab E o N F (fun a j => (¬ pend a ∧ a ≠ at') ∨ (a = at' ∧ dn j))) (ha : F at' = some (s, d)) (e : E at' k b)
    (hb0 : 0 ≤ b) (hb1 : b < N) (hb : ∀ {t u}, F b = some (t, u) → val (s + stS k) (d + stD k) < val t u) (hu : ∀ {y}, E at' k y → y = b) :
    Lab E o N (putH F b (s + stS k) (d + stD k)) (fun a j => (¬ (pend a ∨ a = b) ∧ a ≠ at') ∨ (a = at' ∧ (dn j ∨ j = k))) ∧ pot (putH F b (s + stS k) (d + stD k)) N + 1 ≤ pot F N ∧ putH F b (s + stS k) (d + stD k) at' = some (s, d) := by
  have hk := val_st k
  have hva := val_add s d (stS k) (stD k)
  have hne : b ≠ at' := by
    intro q; subst q
    have := hb ha
    omega
  have hat : putH F b (s + stS k) (d + stD k) at' = some (s, d) := by unfold putH; rw [if_neg (fun q => hne q.symm)]; exact ha
  have hcnt : cnt F N ≤ cnt (putH F b (s + stS k) (d + stD k)) N ∧ (F b = none → cnt (putH F b (s + stS k) (d + stD k)) N = cnt F N + 1) := by
    refine ⟨?_, fun q => cnt_put F b _ _ N hb0 hb1 q⟩
    cases hc : F b with
    | none => rw [cnt_put F b _ _ N hb0 hb1 hc]; omega
    | some c =>
      have : ∀ n : Nat, cnt F n ≤ cnt (putH F b (s + stS k) (d + stD k)) n := by
        intro n
        induction n with
        | zero => exact Nat.le_refl _
        | succ n ih =>
          unfold cnt
          by_cases q : (n : Int) = b
          · have : putH F b (s + stS k) (d + stD k) n = some (s + stS k, d + stD k) := if_pos q
            rw [this]; simp; split <;> omega
          · have : putH F b (s + stS k) (d + stD k) n = F n := if_neg q
            rw [this]; omega
      exact this N
  have h1 := h.sound ha
  refine ⟨⟨fun {x t u} hx => ?_, fun {x y t u j} hx ex hd => ?_, ?_, fun {x c} hx => ?_⟩, ?_, hat⟩
  · unfold putH at hx
    split at hx
    · cases hx; rename_i q; subst q
      refine ⟨Wk.step h1.1 e, ?_⟩
      cases hc : F x with
      | none => rw [hcnt.2 hc, hva]; have := h1.2; omega
      | some c =>
        obtain ⟨t, u⟩ := c
        have := hb hc
        have := (h.sound hc).2
        have := hcnt.1
        omega
    · have := h.sound hx; exact ⟨this.1, by have := this.2; have := hcnt.1; omega⟩
  · have key : ∀ {s2 d2 : Int}, F y = some (s2, d2) → val s2 d2 ≤ val t u + val (stS j) (stD j) → ∃ s' d', putH F b (s + stS k) (d + stD k) y = some (s', d') ∧ val s' d' ≤ val t u + val (stS j) (stD j) := by
      intro s2 d2 h2 h3
      by_cases q : y = b
      · subst q
        have := hb h2
        exact ⟨_, _, if_pos rfl, by omega⟩
      · exact ⟨s2, d2, by unfold putH; rw [if_neg q]; exact h2, h3⟩
    rcases hd with ⟨hd1, hd2⟩ | ⟨rfl, hd⟩
    · have q : x ≠ b := fun q => hd1 (Or.inr q)
      have hx' : F x = some (t, u) := by unfold putH at hx; rw [if_neg q] at hx; exact hx
      obtain ⟨s2, d2, h2, h3⟩ := h.edge hx' ex (Or.inl ⟨fun q2 => hd1 (Or.inl q2), hd2⟩)
      exact key h2 h3
    · rw [hat] at hx; cases hx
      rcases hd with hd | rfl
      · obtain ⟨s2, d2, h2, h3⟩ := h.edge ha ex (Or.inr ⟨rfl, hd⟩)
        exact key h2 h3
      · have := hu ex
        subst this
        exact ⟨_, _, if_pos rfl, by rw [hva]; exact Int.le_refl _⟩
  · obtain ⟨s2, d2, h2, h3⟩ := h.org
    by_cases q : o = b
    · subst q
      have := hb h2
      exact ⟨_, _, if_pos rfl, by omega⟩
    · exact ⟨s2, d2, by unfold putH; rw [if_neg q]; exact h2, h3⟩
  · unfold putH at hx
    split at hx
    · rename_i q; subst q; exact ⟨hb0, hb1⟩
    · exact h.dom hx
  · rw [pot_put F b _ _ N hb0 hb1]
    have : val (s + stS k) (d + stD k) + 1 ≤ pot1 (F b) := by
      cases hc : F b with
      | none =>
        show _ ≤ 13979748609
        have h2 := h1.2
        have h3 := hcnt.2 hc
        have h4 := cnt_le (putH F b (s + stS k) (d + stD k)) N
        rw [hva]
        omega
      | some c => obtain ⟨t, u⟩ := c; have := hb hc; show _ ≤ val t u; omega
    omega

/-- a cell has not become nearer -/
theorem Lab.asfar {F : Int → Option (Int × Int)} {pend : Int → Prop} {dn : Nat → Prop} {at' b s d t u : Int} {k : Nat} (h : Lab E o N F (fun a j => (¬ pend a ∧ a ≠ at') ∨ (a = at' ∧ dn j))) (ha : F at' = some (s, d))
    (hb : F b = some (t, u)) (hle : val t u ≤ val (s + stS k) (d + stD k)) (hu : ∀ {y}, E at' k y → y = b) :
    Lab E o N F (fun a j => (¬ pend a ∧ a ≠ at') ∨ (a = at' ∧ (dn j ∨ j = k))) := by
  refine ⟨fun hx => h.sound hx, fun {x y t' u' j} hx ex hd => ?_, h.org, fun hx => h.dom hx⟩
  rcases hd with hd | ⟨rfl, hd | rfl⟩
  · exact h.edge hx ex (Or.inl hd)
  · exact h.edge hx ex (Or.inr ⟨rfl, hd⟩)
  · rw [ha] at hx; cases hx
    have := hu ex
    subst this
    exact ⟨t, u, hb, by rw [val_add] at hle; exact hle⟩

theorem Lab.done {F : Int → Option (Int × Int)} (hN : N ≤ 256) (h : Lab E o N F (fun _ _ => True)) : Best E o F := by
  refine ⟨fun hx => (h.sound hx).1, fun {a s d} hw => ?_, fun {a s d} hx => h.val_bd hN hx⟩
  refine hw.ind (R := fun a s d => ∃ s' d', F a = some (s', d') ∧ val s' d' ≤ val s d) h.org (fun a s d k b _ ih e => ?_)
  obtain ⟨s', d', h1, h2⟩ := ih
  obtain ⟨s2, d2, h3, h4⟩ := h.edge h1 e trivial
  exact ⟨s2, d2, h3, by rw [val_add]; omega⟩
end Go.Proofs.YtfhicijgpdpfpaaDoor
/-
  By which direction a cell was come to.
-/
namespace Go.Proofs.YtfhicijgpdpfpaaDoor
open Go.RowKit

/-- what the closure of 'back' reads -/
def BackEnv (w : World) (C1 C2 fb gb cb : Nat) (c r s d s' d' : Int) : Prop :=
  w.cell? ⟨C1, 0, none⟩ = some (.pointer (some ⟨fb, 0, none⟩)) ∧ w.cell? ⟨fb, 0, none⟩ = some (.pointer (some ⟨gb, 0, none⟩)) ∧ w.cell? ⟨fb, 1, none⟩ = some (.map (some cb)) ∧ w.cell? ⟨C2, 0, none⟩ = some (.int .i64 c) ∧
  (Instr.lookup 85 (.map (some cb)) (.int .i64 r) false).run Tryd.prog w = .ok (.agg #[.int .i64 s', .int .i64 d']) w ∧ (Instr.lookup 85 (.map (some cb)) (.int .i64 c) false).run Tryd.prog w = .ok (.agg #[.int .i64 s, .int .i64 d]) w

theorem backEnv {w : World} {C1 C2 fb gb cb n : Nat} {W H V c r s d s' d' : Int} {bl : Nat → Bool} {F : Int → Option (Int × Int)} (f : FloodAt w fb gb cb W H V bl F n) (hc : inB W H c = true) (hr : inB W H r = true) (hF : F c = some (s, d)) (hG : F r = some (s', d'))
    (c1 : w.cell? ⟨C1, 0, none⟩ = some (.pointer (some ⟨fb, 0, none⟩))) (c2 : w.cell? ⟨C2, 0, none⟩ = some (.int .i64 c)) : BackEnv w C1 C2 fb gb cb c r s d s' d' :=
  ⟨c1, f.p0, f.p1, c2, f.look1 (wf_cell f.ga.w1 f.ga.w2 f.ga.h1 f.ga.h2 hr) hG, f.look1 (wf_cell f.ga.w1 f.ga.w2 f.ga.h1 f.ga.h2 hc) hF⟩

set_option maxHeartbeats 2000000 in
set_option maxRecDepth 1000000 in
theorem back_fits {C1 C2 fb gb cb n : Nat} {W H V c r s d s' d' : Int} {bl : Nat → Bool} {F : Int → Option (Int × Int)} (k : Nat) (w : World) (f : FloodAt w fb gb cb W H V bl F n) (hk : k < 8) (hc : inB W H c = true) (hri : inB W H r = true) (hr : c + (stepY k * W + stepX k) = r) (hF : F c = some (s, d)) (hG : F r = some (s', d'))
    (hok : okC s' d')
    (c1 : w.cell? ⟨C1, 0, none⟩ = some (.pointer (some ⟨fb, 0, none⟩))) (c2 : w.cell? ⟨C2, 0, none⟩ = some (.int .i64 c)) :
    Calls Tryd.prog 84 #[.int .i64 k, .pointer (some ⟨C1, 0, none⟩), .pointer (some ⟨C2, 0, none⟩)] w fun e w' => e = .returned (.bool (s' + stS k == s && d' + stD k == d)) ∧ Below w.heap.size w w' := by
  have hcc : 0 ≤ c ∧ c < W * H := of_decide_eq_true hc
  obtain ⟨k1, k2⟩ := wh_bd f.ga.w1 f.ga.w2 f.ga.h1 f.ga.h2
  have hst := st_bd k
  have hokS : okC (stS k) (stD k) := by unfold okC; omega
  have fd : FloodAt w.drew fb gb cb W H V bl F n := f.below ⟨rfl, rfl, rfl, Nat.le_refl _, fun _ _ => rfl⟩
  have E := backEnv (C1 := C1) (C2 := C2) fd hc hri hF hG c1 c2
  have HB : Below w.heap.size w w.drew := ⟨rfl, rfl, rfl, Nat.le_refl _, fun _ _ => rfl⟩
  have cc1 : w.drew.cell? ⟨C1, 0, none⟩ = some (.pointer (some ⟨fb, 0, none⟩)) := c1
  have cc2 : w.drew.cell? ⟨C2, 0, none⟩ = some (.int .i64 c) := c2
  have hadd := fun w => add_any s' d' (stS k) (stD k) w hok hokS
  have hok' : okC s' d' := hok
  clear hok hokS hst
  generalize s' + stS k = A at *
  generalize d' + stD k = B at *
  by_cases e1 : A = s
  · obtain rfl : s = A := e1.symm
    by_cases e2 : B = d
    · obtain rfl : d = B := e2.symm
      go_enter Tryd.func84, Tryd.ntmps84
      go_wp2
      go_region_held3 (fun w' => w'.cell? ⟨C1, 0, none⟩ = some (.pointer (some ⟨fb, 0, none⟩)) ∧ w'.cell? ⟨fb, 0, none⟩ = some (.pointer (some ⟨gb, 0, none⟩)) ∧ w'.cell? ⟨fb, 1, none⟩ = some (.map (some cb)) ∧ w'.cell? ⟨C2, 0, none⟩ = some (.int .i64 c) ∧ (Instr.lookup 85 (.map (some cb)) (.int .i64 r) false).run Tryd.prog w' = .ok (.agg #[.int .i64 s', .int .i64 d']) w' ∧ (Instr.lookup 85 (.map (some cb)) (.int .i64 c) false).run Tryd.prog w' = .ok (.agg #[.int .i64 s, .int .i64 d]) w') (first | (exact E)) (first | (go_at_call 25; refine (to_b hr _ fd.ga fd.st hk (by omega) (by omega)).mono ?_; rintro e w1 ⟨rfl, hb1⟩; have fd := fd.below hb1; have cc1 := (hb1.cell (World.block_lt_of_cell? _ _ cc1)).trans cc1; have cc2 := (hb1.cell (World.block_lt_of_cell? _ _ cc2)).trans cc2; have E := backEnv (C1 := C1) (C2 := C2) fd hc hri hF hG cc1 cc2; have HB := HB.trans (hb1.mono HB.size)) | (go_at_call 47; refine (stepCost_any k _ fd.st hk).mono ?_; rintro e w1 ⟨rfl, hb1⟩; have fd := fd.below hb1; have cc1 := (hb1.cell (World.block_lt_of_cell? _ _ cc1)).trans cc1; have cc2 := (hb1.cell (World.block_lt_of_cell? _ _ cc2)).trans cc2; have E := backEnv (C1 := C1) (C2 := C2) fd hc hri hF hG cc1 cc2; have HB := HB.trans (hb1.mono HB.size)) | (go_at_call 27; refine (hadd _).mono ?_; rintro e w1 ⟨rfl, hb1⟩; have fd := fd.below hb1; have cc1 := (hb1.cell (World.block_lt_of_cell? _ _ cc1)).trans cc1; have cc2 := (hb1.cell (World.block_lt_of_cell? _ _ cc2)).trans cc2; have E := backEnv (C1 := C1) (C2 := C2) fd hc hri hF hG cc1 cc2; have HB := HB.trans (hb1.mono HB.size)))
      all_goals (try go_wp2)
      all_goals (go_ret; refine ⟨?_, HB⟩; simp [*])
    · have e2' : (B == d) = false := by simpa using e2
      go_enter Tryd.func84, Tryd.ntmps84
      go_wp2
      go_region_held3 (fun w' => w'.cell? ⟨C1, 0, none⟩ = some (.pointer (some ⟨fb, 0, none⟩)) ∧ w'.cell? ⟨fb, 0, none⟩ = some (.pointer (some ⟨gb, 0, none⟩)) ∧ w'.cell? ⟨fb, 1, none⟩ = some (.map (some cb)) ∧ w'.cell? ⟨C2, 0, none⟩ = some (.int .i64 c) ∧ (Instr.lookup 85 (.map (some cb)) (.int .i64 r) false).run Tryd.prog w' = .ok (.agg #[.int .i64 s', .int .i64 d']) w' ∧ (Instr.lookup 85 (.map (some cb)) (.int .i64 c) false).run Tryd.prog w' = .ok (.agg #[.int .i64 s, .int .i64 d]) w') (first | (exact E)) (first | (go_at_call 25; refine (to_b hr _ fd.ga fd.st hk (by omega) (by omega)).mono ?_; rintro e w1 ⟨rfl, hb1⟩; have fd := fd.below hb1; have cc1 := (hb1.cell (World.block_lt_of_cell? _ _ cc1)).trans cc1; have cc2 := (hb1.cell (World.block_lt_of_cell? _ _ cc2)).trans cc2; have E := backEnv (C1 := C1) (C2 := C2) fd hc hri hF hG cc1 cc2; have HB := HB.trans (hb1.mono HB.size)) | (go_at_call 47; refine (stepCost_any k _ fd.st hk).mono ?_; rintro e w1 ⟨rfl, hb1⟩; have fd := fd.below hb1; have cc1 := (hb1.cell (World.block_lt_of_cell? _ _ cc1)).trans cc1; have cc2 := (hb1.cell (World.block_lt_of_cell? _ _ cc2)).trans cc2; have E := backEnv (C1 := C1) (C2 := C2) fd hc hri hF hG cc1 cc2; have HB := HB.trans (hb1.mono HB.size)) | (go_at_call 27; refine (hadd _).mono ?_; rintro e w1 ⟨rfl, hb1⟩; have fd := fd.below hb1; have cc1 := (hb1.cell (World.block_lt_of_cell? _ _ cc1)).trans cc1; have cc2 := (hb1.cell (World.block_lt_of_cell? _ _ cc2)).trans cc2; have E := backEnv (C1 := C1) (C2 := C2) fd hc hri hF hG cc1 cc2; have HB := HB.trans (hb1.mono HB.size)))
      all_goals (try go_wp2)
      all_goals (go_ret; refine ⟨?_, HB⟩; simp [*])
  · have e1' : (A == s) = false := by simpa using e1
    go_enter Tryd.func84, Tryd.ntmps84
    go_wp2
    go_region_held3 (fun w' => w'.cell? ⟨C1, 0, none⟩ = some (.pointer (some ⟨fb, 0, none⟩)) ∧ w'.cell? ⟨fb, 0, none⟩ = some (.pointer (some ⟨gb, 0, none⟩)) ∧ w'.cell? ⟨fb, 1, none⟩ = some (.map (some cb)) ∧ w'.cell? ⟨C2, 0, none⟩ = some (.int .i64 c) ∧ (Instr.lookup 85 (.map (some cb)) (.int .i64 r) false).run Tryd.prog w' = .ok (.agg #[.int .i64 s', .int .i64 d']) w' ∧ (Instr.lookup 85 (.map (some cb)) (.int .i64 c) false).run Tryd.prog w' = .ok (.agg #[.int .i64 s, .int .i64 d]) w') (first | (exact E)) (first | (go_at_call 25; refine (to_b hr _ fd.ga fd.st hk (by omega) (by omega)).mono ?_; rintro e w1 ⟨rfl, hb1⟩; have fd := fd.below hb1; have cc1 := (hb1.cell (World.block_lt_of_cell? _ _ cc1)).trans cc1; have cc2 := (hb1.cell (World.block_lt_of_cell? _ _ cc2)).trans cc2; have E := backEnv (C1 := C1) (C2 := C2) fd hc hri hF hG cc1 cc2; have HB := HB.trans (hb1.mono HB.size)) | (go_at_call 47; refine (stepCost_any k _ fd.st hk).mono ?_; rintro e w1 ⟨rfl, hb1⟩; have fd := fd.below hb1; have cc1 := (hb1.cell (World.block_lt_of_cell? _ _ cc1)).trans cc1; have cc2 := (hb1.cell (World.block_lt_of_cell? _ _ cc2)).trans cc2; have E := backEnv (C1 := C1) (C2 := C2) fd hc hri hF hG cc1 cc2; have HB := HB.trans (hb1.mono HB.size)) | (go_at_call 27; refine (hadd _).mono ?_; rintro e w1 ⟨rfl, hb1⟩; have fd := fd.below hb1; have cc1 := (hb1.cell (World.block_lt_of_cell? _ _ cc1)).trans cc1; have cc2 := (hb1.cell (World.block_lt_of_cell? _ _ cc2)).trans cc2; have E := backEnv (C1 := C1) (C2 := C2) fd hc hri hF hG cc1 cc2; have HB := HB.trans (hb1.mono HB.size)))
    all_goals (try go_wp2)
    all_goals (go_ret; refine ⟨?_, HB⟩; simp [*])
end Go.Proofs.YtfhicijgpdpfpaaDoor
/-
  A step back from a cell that was come to.
-/
namespace Go.Proofs.YtfhicijgpdpfpaaDoor
open Go.RowKit

/-- was a cell come to by this direction's cell? -/
def byB (F : Int → Option (Int × Int)) (W c s d : Int) (k : Nat) : Bool := match F (c + (stepY k * W + stepX k)) with | some q => q.1 + stS k == s && q.2 + stD k == d | none => false

set_option maxHeartbeats 1000000 in
theorem back_any {fb gb cb n : Nat} {W H V x y s d o : Int} {bl : Nat → Bool} {F : Int → Option (Int × Int)} (c : Nat) (hx : (c : Int) % W = x) (hy : (c : Int) / W = y) (w : World) (f : FloodAt w fb gb cb W H V bl F n) (B : Best (Edge W H bl) o F) (hr : inB W H c = true) (hF : F c = some (s, d)) :
    Calls Tryd.prog 54 #[.pointer (some ⟨fb, 0, none⟩), .int .i64 c] w fun e w' => FoundAt w w' e (fun k => mayB W H bl x y k && byB F W c s d k) := by
  have hcc : 0 ≤ (c : Int) ∧ (c : Int) < W * H := of_decide_eq_true hr
  have w1 := f.ga.w1
  obtain ⟨k1, k2⟩ := wh_bd f.ga.w1 f.ga.w2 f.ga.h1 f.ga.h2
  obtain ⟨hfb, hgb, hcb, h00⟩ := f.blocks
  have p0 := f.p0
  have HB : Below w.heap.size w ((w.alloc (.cells #[.pointer (some ⟨fb, 0, none⟩)] 39)).alloc (.cells #[.int .i64 (c : Int)] 3)) := ((Below.refl _ _).alloc (Nat.le_refl _) _).alloc (by simp) _
  have q1 : ((w.alloc (.cells #[.pointer (some ⟨fb, 0, none⟩)] 39)).alloc (.cells #[.int .i64 (c : Int)] 3)).cell? ⟨w.heap.size, 0, none⟩ = some (.pointer (some ⟨fb, 0, none⟩)) := by
    rw [World.cell?_alloc_old _ _ _ (by simp), World.cell?_alloc_new]; rfl
  have q2 : ((w.alloc (.cells #[.pointer (some ⟨fb, 0, none⟩)] 39)).alloc (.cells #[.int .i64 (c : Int)] 3)).cell? ⟨w.heap.size + 1, 0, none⟩ = some (.int .i64 (c : Int)) :=
    World.cell?_alloc_at #[.int .i64 (c : Int)] 3 (w.heap.size + 1) 0 (by simp)
  go_enter Tryd.func54, Tryd.ntmps54
  go_wp2_with fail
  generalize (w.alloc (.cells #[.pointer (some ⟨fb, 0, none⟩)] 39)).alloc (.cells #[.int .i64 (c : Int)] 3) = W0 at *
  have HB : Below w.heap.size w W0.drew := ⟨HB.os, HB.tape, HB.output, HB.size, HB.block⟩
  have q1 : W0.drew.cell? ⟨w.heap.size, 0, none⟩ = some (.pointer (some ⟨fb, 0, none⟩)) := q1
  have q2 : W0.drew.cell? ⟨w.heap.size + 1, 0, none⟩ = some (.int .i64 (c : Int)) := q2
  have f0 := f.below HB
  have p0 := f0.p0
  have hz := HB.size
  have hfind := find_back (c1 := .pointer (some ⟨w.heap.size, 0, none⟩)) (c2 := .pointer (some ⟨w.heap.size + 1, 0, none⟩)) c hx hy (fun k => byB F W c s d k) W0.drew f0.ga f0.st (by omega) hr (fun k hk hm w' hb' => by
    have kk : ∀ {a : Addr} {v : Value}, W0.drew.cell? a = some v → w'.cell? a = some v := fun {a v} h => (hb'.cell (World.block_lt_of_cell? W0.drew a h)).trans h
    have hed : Edge W H bl c k ((c : Int) + (stepY k * W + stepX k)) := ⟨hk, hr, by rw [hx, hy]; exact hm, rfl⟩
    have hti := hed.in' w1
    obtain ⟨s', d', hG, _⟩ := B.edge hF hed
    obtain ⟨b1, b2, b3⟩ := B.small hG
    have hsm := val_small b1 b2 b3
    have hok : okC s' d' := by unfold okC; omega
    have := back_fits (C1 := w.heap.size) (C2 := w.heap.size + 1) k w' (f0.below hb') hk hr hti rfl hF hG hok (kk q1) (kk q2)
    have e : byB F W c s d k = (s' + stS k == s && d' + stD k == d) := by unfold byB; rw [hG]
    show Calls _ _ _ _ (fun e w'' => e = .returned (.bool (byB F W c s d k)) ∧ _)
    rw [e]
    exact this)
  go_region_held3 (fun w' => w'.cell? ⟨w.heap.size, 0, none⟩ = some (.pointer (some ⟨fb, 0, none⟩)) ∧ w'.cell? ⟨fb, 0, none⟩ = some (.pointer (some ⟨gb, 0, none⟩)) ∧ w'.cell? ⟨w.heap.size + 1, 0, none⟩ = some (.int .i64 (c : Int))) (first | (exact ⟨q1, p0, q2⟩)) (first | (go_at_call 75; refine hfind.mono ?_; rintro e w5 ⟨r, ok, rfl, hFo, hb5⟩; have q1 := (hb5.cell (World.block_lt_of_cell? _ _ q1)).trans q1; have p0 := (hb5.cell (World.block_lt_of_cell? _ _ p0)).trans p0; have q2 := (hb5.cell (World.block_lt_of_cell? _ _ q2)).trans q2))
  all_goals (try go_wp2)
  all_goals (go_ret2; exact ⟨r, ok, rfl, hFo, HB.trans (hb5.mono hz)⟩)

/-- what 'back' comes to: a cell one step nearer, or there is none: it is the first one -/
theorem back_step {W H x y s d o r : Int} {bl : Nat → Bool} {F : Int → Option (Int × Int)} {c : Nat} {ok : Bool} (hx : (c : Int) % W = x) (hy : (c : Int) / W = y) (w1 : 1 ≤ W) (B : Best (Edge W H bl) o F) (hr : inB W H c = true) (hF : F c = some (s, d)) (h : Found (fun k => mayB W H bl x y k && byB F W c s d k) r ok) :
    (ok = true ∧ ∃ (k : Nat) (s' d' : Int), k < 8 ∧ r = k ∧ Edge W H bl c k ((c : Int) + (stepY k * W + stepX k)) ∧ F ((c : Int) + (stepY k * W + stepX k)) = some (s', d') ∧ s' + stS k = s ∧ d' + stD k = d) ∨ (ok = false ∧ (c : Int) = o) := by
  rcases h with ⟨h1, k, hk, hrk, hq, _⟩ | ⟨h1, _, hno⟩
  · left
    rw [Bool.and_eq_true] at hq
    obtain ⟨hm, hby⟩ := hq
    have hed : Edge W H bl c k ((c : Int) + (stepY k * W + stepX k)) := ⟨hk, hr, by rw [hx, hy]; exact hm, rfl⟩
    unfold byB at hby
    cases hG : F ((c : Int) + (stepY k * W + stepX k)) with
    | none => rw [hG] at hby; cases hby
    | some q =>
      obtain ⟨s', d'⟩ := q
      rw [hG] at hby
      simp only [Bool.and_eq_true, beq_iff_eq] at hby
      exact ⟨h1, k, s', d', hk, hrk, hed, hG, hby.1, hby.2⟩
  · right
    refine ⟨h1, ?_⟩
    by_cases e : (c : Int) = o
    · exact e
    · exfalso
      obtain ⟨a, k, s', d', he, hG, e1, e2⟩ := B.prev hF e
      obtain ⟨k', he', g1, g2⟩ := Edge.back w1 a k c he
      obtain ⟨j1, j2, j3, j4⟩ := he'
      have hn : (mayB W H bl x y k' && byB F W c s d k') = false := hno k' j1
      rw [hx, hy] at j3
      rw [j3] at hn
      unfold byB at hn
      rw [← j4, hG, g1, g2, e1, e2] at hn
      simp at hn
end Go.Proofs.YtfhicijgpdpfpaaDoor
