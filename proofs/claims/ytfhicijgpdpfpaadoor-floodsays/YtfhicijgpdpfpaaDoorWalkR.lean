/-
  What a walk costs: the reference's.
-/
import Derived.Test.YtfhicijgpdpfpaaDoorWalkP
import Derived.Test.YtfhicijgpdpfpaaDoorRCost
import Derived.Test.YtfhicijgpdpfpaaDoorRMoves
namespace Go.Proofs.YtfhicijgpdpfpaaDoor
open Go.RowKit

theorem step_inj {d e : Nat} (hd : d < 8) (he : e < 8) (hx : stepX d = stepX e) (hy : stepY d = stepY e) : d = e := by
  have h : ∀ d : Fin 8, ∀ e : Fin 8, stepX d = stepX e → stepY d = stepY e → d = e := by decide
  have := h ⟨d, hd⟩ ⟨e, he⟩ hx hy
  exact congrArg Fin.val this

/-- two directions that may be gone come to two cells -/
theorem one_dir {W H a : Int} {bl : Nat → Bool} {d e : Nat} (w1 : 1 ≤ W) (hd : d < 8) (he : e < 8) (md : mayB W H bl (a % W) (a / W) d = true) (me : mayB W H bl (a % W) (a / W) e = true) (h : a + (stepY d * W + stepX d) = a + (stepY e * W + stepX e)) : d = e := by
  have key : ∀ {k : Nat}, mayB W H bl (a % W) (a / W) k = true → (a + (stepY k * W + stepX k)) % W = a % W + stepX k ∧ (a + (stepY k * W + stepX k)) / W = a / W + stepY k := by
    intro k mk
    obtain ⟨_, o2, _, _⟩ := may_parts mk
    obtain ⟨a1, a2, a3, a4⟩ := open_in o2
    have e : a + (stepY k * W + stepX k) = (a / W + stepY k) * W + (a % W + stepX k) := by
      have := cell_eq W a
      rw [Int.add_mul]
      omega
    obtain ⟨p1, p2, p3⟩ := place_to (H := H) w1 a1 a2 a3 a4
    rw [e, p2, p3]
    exact ⟨rfl, rfl⟩
  obtain ⟨k1, k2⟩ := key md
  obtain ⟨j1, j2⟩ := key me
  rw [h] at k1 k2
  exact step_inj hd he (by omega) (by omega)

/-- does a direction come to this cell? -/
def hitB (W a t : Int) (d : Nat) : Bool := a + (stepY d * W + stepX d) == t

theorem find_dirs {W H a t : Int} {bl : Nat → Bool} {l : List Nat} (hl : DirsOf W H bl a l) : l.find? (hitB W a t) = stepD W H bl a t := by
  rw [← hl.eq]
  unfold mvs stepD
  rw [List.find?_filter]
  congr 1
  funext d
  unfold hitB
  rw [Bool.eq_iff_iff]
  simp

theorem take_find {l : List Nat} {p : Nat → Bool} {q : Nat} (hq : q < l.length) : (l.take (q + 1)).find? p = ((l.take q).find? p).or (if p (l.getD q 0) then some (l.getD q 0) else none) := by
  rw [List.take_add_one, List.find?_append, List.getElem?_eq_getElem hq, getD_at _ _ hq]
  simp

theorem take_once {W H a t : Int} {bl : Nat → Bool} {l : List Nat} {q k : Nat} (w1 : 1 ≤ W) (hl : DirsOf W H bl a l) (hq : q < l.length) (h : (l.take q).find? (hitB W a t) = some k) : hitB W a t (l.getD q 0) = false := by
  cases hh : hitB W a t (l.getD q 0) with
  | false => rfl
  | true =>
    exfalso
    have hk : hitB W a t k = true := List.find?_some h
    have hmem := List.mem_of_find?_eq_some h
    obtain ⟨j, hj, hjk⟩ := List.mem_iff_getElem.mp hmem
    rw [List.length_take] at hj
    rw [List.getElem_take] at hjk
    have mk : ∀ i (hi : i < l.length), l[i] < 8 ∧ mayB W H bl (a % W) (a / W) l[i] = true := fun i hi => by
      have hi' : i < (mvs W H bl (a % W) (a / W) 8).length := by rw [hl.eq]; exact hi
      have := mvs_at hi'
      rw [hl.eq, getD_at _ _ hi] at this
      exact this
    have hjl : j < l.length := by omega
    obtain ⟨a1, a2⟩ := mk j hjl
    obtain ⟨b1, b2⟩ := mk q hq
    unfold hitB at hh hk
    rw [getD_at _ _ hq] at hh
    rw [beq_iff_eq] at hh hk
    rw [← hjk] at hk
    have := one_dir w1 a1 b1 a2 b2 (by rw [hk, hh])
    have hs := mvs_sorted W H (a % W) (a / W) bl 8
    rw [hl.eq, List.pairwise_iff_getElem] at hs
    have := hs j q hjl hq (by omega)
    omega

theorem rmoves_b {b : Nat} {W H V c : Int} {bl : Nat → Bool} {l : List Nat} (hl : DirsOf W H bl c l) (w : World) (g : RefAt w b W H V bl) (hr : inB W H c = true) (hb : b < w.heap.size) :
    Calls Tryd.prog 24 #[.pointer (some ⟨b, 0, none⟩), .int .i64 c] w fun e w' => ∃ A cap, e = .returned (.slice A l.length cap) ∧ (OldRow w' A l.length (fun i => (l.getD i 0 : Nat)) ∧ ∀ g o, A = some ⟨g, o, none⟩ → w.heap.size ≤ g) ∧ Below w.heap.size w w' :=
  (rmoves_in c w g hr hb).mono fun e w' ⟨v, he, hown, hbl⟩ => by
    rw [hl.eq] at hown
    obtain ⟨A, cap, rfl, hrow⟩ := row_of hown
    refine ⟨A, cap, he, ⟨hrow, fun g o e => ?_⟩, hbl⟩
    rcases hown.2 with ⟨hv, _⟩ | ⟨g', cap', cur, hv, hg, _⟩
    · simp only [Value.slice.injEq] at hv
      rw [hv.1] at e; cases e
    · simp only [Value.slice.injEq] at hv
      rw [hv.1] at e; cases e; exact hg

/-- what a walk costs behind a step that was found, or was not -/
def addO (s d : Int) (o : Option Nat) : Int × Int := match o with | none => (s, d) | some k => (s + stS k, d + stD k)

set_option maxHeartbeats 4000000 in
set_option maxRecDepth 1000000 in
theorem rwalk_any {b n cap : Nat} {A : Option Addr} {W H V : Int} {bl : Nat → Bool} {xs : Nat → Int} (w : World) (g : RefAt w b W H V bl) (hb : b < w.heap.size) (hx : OldRow w A n xs) (hn : n ≤ 1000) :
    Calls Tryd.prog 12 #[.pointer (some ⟨b, 0, none⟩), .slice A n cap] w fun e w' => e = .returned (.tuple #[.agg #[.int .i64 (wkV W H bl xs n).1.1, .int .i64 (wkV W H bl xs n).1.2], .int .i64 (wkV W H bl xs n).2]) ∧ Below w.heap.size w w' := by
  have R0 : Slot ((w.alloc (.cells #[.int .i64 0, .int .i64 0] 31)).alloc (.cells #[.int .i64 0, .int .i64 0] 31)) w.heap.size 0 0 := (Slot.new w 0 0).below ((Below.refl _ _).alloc (Nat.le_refl _) _)
  have S0 : Slot ((w.alloc (.cells #[.int .i64 0, .int .i64 0] 31)).alloc (.cells #[.int .i64 0, .int .i64 0] 31)) (w.heap.size + 1) 0 0 := by
    have := Slot.new (w.alloc (.cells #[.int .i64 0, .int .i64 0] 31)) 0 0
    have e : (w.alloc (.cells #[.int .i64 0, .int .i64 0] 31)).heap.size = w.heap.size + 1 := by simp
    rw [e] at this
    exact this
  have HB0 : Below w.heap.size w ((w.alloc (.cells #[.int .i64 0, .int .i64 0] 31)).alloc (.cells #[.int .i64 0, .int .i64 0] 31)) := ((Below.refl _ _).alloc (Nat.le_refl _) _).alloc (by simp) _
  have w1' := g.w1
  obtain ⟨kk1, kk2⟩ := wh_bd g.w1 g.w2 g.h1 g.h2
  go_enter Tryd.func12, Tryd.ntmps12
  go_wp2
  go_loopg [7] n (fun gk iv wr => ∃ (i : Nat) (c : Int × Int), i ≤ n ∧ gk = n - i ∧ iv = .int .i64 i ∧ wkS W H bl xs i = .ok c ∧ Slot wr w.heap.size 0 0 ∧ Slot wr (w.heap.size + 1) c.1 c.2 ∧ Below w.heap.size w wr)
  case atStart => exact ⟨0, (0, 0), by omega, rfl, rfl, rfl, R0, S0, HB0⟩
  case round =>
    clear R0 S0 HB0
    obtain ⟨i, ⟨s1, d1⟩, hi, hgk, rfl, hw, R, S, HB⟩ := hrel
    have HG : Hid (gk = n - i) := hgk
    clear hgk
    have gr := g.below HB hb
    have hbd := wkS_bd hw
    simp only at hbd S
    by_cases hlt : i < n
    · have hlt' : (i : Int) < (n : Int) := by omega
      obtain ⟨ba, oa, rfl, hba, hcell⟩ := hx i hlt
      have ci : wr.cell? ⟨ba, oa + i, none⟩ = some (.int .i64 (xs i)) := (HB.cell (p := ⟨ba, oa + i, none⟩) hba).trans hcell
      clear hcell
      have hck := ff_any (xs i) wr gr
      by_cases hf : ffv W H bl (xs i) = 0
      · rw [hf] at hck
        by_cases hi0 : i = 0
        · subst hi0
          have ci' : wr.cell? ⟨ba, oa, none⟩ = some (.int .i64 (xs 0)) := ci
          have hnx : wkS W H bl xs (0 + 1) = .ok (s1, d1) := by rw [wkS_next hw]; unfold wk1; rw [if_pos hf, if_pos rfl]
          go_wp2_with (go_at_call 15; refine hck.mono ?_; rintro e w1 ⟨rfl, hb1⟩)
          go_roundg (n - (0 + 1))
          case measure => have := HG.out; omega
          case rel => exact ⟨0 + 1, (s1, d1), by omega, rfl, by go_num, hnx, R.below hb1, S.below hb1, HB.trans (hb1.mono HB.size)⟩
        · have hib : ((i : Int) == 0) = false := by simp; omega
          have hie : ¬ (i : Int) = 0 := by omega
          have hin : inB W H (xs (i - 1)) = true := wkS_in (i := i - 1) (by rw [Nat.sub_add_cancel (by omega)]; exact hw)
          have hc2 : 0 ≤ xs (i - 1) ∧ xs (i - 1) < W * H := of_decide_eq_true hin
          obtain ⟨ba', oa', e, hba', hcell'⟩ := hx (i - 1) (by omega)
          cases e
          have cp : wr.cell? ⟨ba, oa + (i - 1), none⟩ = some (.int .i64 (xs (i - 1))) := (HB.cell (p := ⟨ba, oa + (i - 1), none⟩) hba).trans hcell'
          have hti : ((i : Int) - 1).toNat = i - 1 := by omega
          have j1 : (0 : Int) ≤ (i : Int) - 1 := by omega
          have j2 : (i : Int) - 1 < (n : Int) := by omega
          obtain ⟨l, hl⟩ := dirsOf (W := W) (H := H) bl (xs (i - 1)) w1'
          clear hcell'
          go_wp2_with (go_at_call 15; refine hck.mono ?_; rintro e w1 ⟨rfl, hb1⟩; have cp := (hb1.cell (World.block_lt_of_cell? _ _ cp)).trans cp; have ci := (hb1.cell (World.block_lt_of_cell? _ _ ci)).trans ci)
          refine (rmoves_b hl w1 (gr.below hb1 (Nat.lt_of_lt_of_le hb HB.size)) hin (Nat.lt_of_lt_of_le (Nat.lt_of_lt_of_le hb HB.size) hb1.size)).mono ?_
          rintro e w2 ⟨A1, cap1, rfl, ⟨hrow, hnew⟩, hb2⟩
          have hnew1 : ∀ g o, A1 = some ⟨g, o, none⟩ → wr.heap.size ≤ g := fun g o e => Nat.le_trans hb1.size (hnew g o e)
          have hNr : w.heap.size + 1 < wr.heap.size := World.block_lt_of_cell? wr _ S.c0
          have hb12 : Below wr.heap.size wr w2 := hb1.trans (hb2.mono hb1.size)
          have R2 := R.below hb12
          have S2 := S.below hb12
          have HB2 := HB.trans (hb12.mono HB.size)
          have cp := (hb2.cell (World.block_lt_of_cell? _ _ cp)).trans cp
          have ci := (hb2.cell (World.block_lt_of_cell? _ _ ci)).trans ci
          clear R S hb1 hb2 hck gr hb12
          have hl8 := hl.len
          obtain ⟨L, hL⟩ : ∃ L, l.length = L := ⟨_, rfl⟩
          have HL : Hid (l.length = L) := hL
          rw [hL] at hrow hl8 ⊢
          clear hL
          have HC2 : Hid (0 ≤ xs (i - 1) ∧ xs (i - 1) < W * H) := hc2
          have hpb1 : -1000 ≤ xs (i - 1) := by omega
          have hpb2 : xs (i - 1) ≤ 1000 := by omega
          clear hc2
          go_wp2
          go_loopg [10, 11] L (fun gk fv kv wq => ∃ (q : Nat) (o : Option Nat), q ≤ L ∧ gk = L - q ∧ fv = .bool o.isSome ∧ kv = .int .i64 q ∧ (l.take q).find? (hitB W (xs (i - 1)) (xs i)) = o ∧ Slot wq w.heap.size 0 0 ∧ Slot wq (w.heap.size + 1) (addO s1 d1 o).1 (addO s1 d1 o).2 ∧ Keep (fun k => k = w.heap.size + 1) w2 wq)
          case atStart => exact ⟨0, none, by omega, rfl, rfl, rfl, rfl, R2, S2, Keep.refl _ _⟩
          case round =>
            clear R2 S2
            obtain ⟨q, o, hq, hgq, rfl, rfl, hfo, R3, S3, K3⟩ := hrel
            have HGq : Hid (gk = L - q) := hgq
            clear hgq
            have HB3 : Below w.heap.size w wr := HB2.trans (K3.to_below HB2.size (fun k hk => by omega))
            have g3 := g.below HB3 hb
            have cp3 : wr.cell? ⟨ba, oa + (i - 1), none⟩ = some (.int .i64 (xs (i - 1))) := K3.cellOf cp (by show ¬ ba = _; omega)
            have ci3 : wr.cell? ⟨ba, oa + i, none⟩ = some (.int .i64 (xs i)) := K3.cellOf ci (by show ¬ ba = _; omega)
            by_cases hqlt : q < L
            · have hqlt' : (q : Int) < (L : Int) := by omega
              have hq0 : (0 : Int) ≤ (q : Int) := by omega
              have hql : q < l.length := by rw [HL.out]; exact hqlt
              obtain ⟨bs, os, rfl, hbs, hcell⟩ := hrow q hqlt
              have hbn := hnew1 bs os rfl
              have cl : wr.cell? ⟨bs, os + q, none⟩ = some (.int .i64 ((l.getD q 0 : Nat) : Int)) := K3.cellOf hcell (by show ¬ bs = _; omega)
              clear hcell hrow
              have hd8 := hl.lt q hql
              have htf := take_find (p := hitB W (xs (i - 1)) (xs i)) hql
              rw [hfo] at htf
              cases hh : hitB W (xs (i - 1)) (xs i) (l.getD q 0) with
              | false =>
                rw [hh] at htf
                have htf' : (l.take (q + 1)).find? (hitB W (xs (i - 1)) (xs i)) = o := by rw [htf]; cases o <;> rfl
                unfold hitB at hh
                have hto := fun w g => rto_v (b := b) (W := W) (H := H) (V := V) (bl := bl) (c := xs (i - 1)) (d := l.getD q 0) rfl w g hd8 hpb1 hpb2
                generalize xs (i - 1) + (stepY (l.getD q 0) * W + stepX (l.getD q 0)) = r at *
                generalize l.getD q 0 = dk at *
                have hrt : ¬ r = xs i := by simpa using hh
                clear htf hh hfo
                go_wp2
                go_quiet ((go_at_call 48; exact Calls.quiet_of_same (hto _ (g3.drewN _))))
                go_wp2
                go_roundg (L - (q + 1))
                case measure => have := HGq.out; omega
                case rel => exact ⟨q + 1, o, by omega, rfl, rfl, by go_num, htf', R3.below (below_drewN (Below.refl _ _) _), S3.below (below_drewN (Below.refl _ _) _), K3.drewN _⟩
              | true =>
                cases o with
                | some k => exact absurd (take_once w1' hl hql hfo) (by rw [hh]; simp)
                | none =>
                  rw [hh] at htf
                  have htf' : (l.take (q + 1)).find? (hitB W (xs (i - 1)) (xs i)) = some (l.getD q 0) := htf
                  unfold hitB at hh
                  have hto := fun w g => rto_v (b := b) (W := W) (H := H) (V := V) (bl := bl) (c := xs (i - 1)) (d := l.getD q 0) (r := xs i) (by simpa using hh) w g hd8 hpb1 hpb2
                  generalize l.getD q 0 = dk at *
                  clear htf hh hfo
                  go_wp2
                  go_quiet ((go_at_call 48; exact Calls.quiet_of_same (hto _ (g3.drewN _))))
                  go_wp2
                  have hrem : Int.tmod (dk : Int) 2 = stD dk := by unfold stD; rw [Int.tmod_eq_emod_of_nonneg (by omega)]; omega
                  have hsub : 1 - stD dk = stS dk := by unfold stS stD; omega
                  have hst := st_bd dk
                  have hok1 : okC s1 d1 := by unfold okC; omega
                  have hok2 : okC (stS dk) (stD dk) := by unfold okC; omega
                  have hadd := fun w => plus_any s1 d1 (stS dk) (stD dk) w hok1 hok2
                  have hu : IntKind.i64.wrap (stS dk) = stS dk := wrap_small (by omega) (by omega)
                  have S4 : Slot (wr.drewN nq).drew (w.heap.size + 1) s1 d1 := ⟨S3.c0, S3.c1, S3.z0, S3.z1⟩
                  have R4 : Slot (wr.drewN nq).drew w.heap.size 0 0 := ⟨R3.c0, R3.c1, R3.z0, R3.z1⟩
                  have K4 : Keep (fun k => k = w.heap.size + 1) w2 (wr.drewN nq).drew := (K3.drewN nq).drew
                  have cl : (wr.drewN nq).drew.cell? ⟨bs, os + q, none⟩ = some (.int .i64 (dk : Int)) := cl
                  have x0 := S4.c0
                  have x1 := S4.c1
                  have x2 := S4.z0
                  have x3 := S4.z1
                  clear S3 R3 K3 HB3 g3 cp3 ci3 hto
                  generalize wr.drewN nq = W4 at *
                  go_region_with (first | (go_at_call 42; refine (hadd _).mono ?_; rintro e w5 ⟨rfl, hb5⟩; have R4 := R4.below hb5; have S4 := S4.below hb5; have K4 := K4.below hb5; have x0 := S4.c0; have x1 := S4.c1; have x2 := S4.z0; have x3 := S4.z1))
                  all_goals
                    clear hadd x0 x1 x2 x3 cl
                    have S6 := S4.set (s1 + stS dk) (d1 + stD dk)
                    have R6 := R4.keep (set_keep _ (w.heap.size + 1) (s1 + stS dk) (d1 + stD dk)) (by omega)
                    have K6 := K4.trans (set_keep _ (w.heap.size + 1) (s1 + stS dk) (d1 + stD dk)) (fun _ _ h => h)
                    clear S4 R4 K4
                    go_wp2
                    go_roundg (L - (q + 1))
                    case measure => have := HGq.out; omega
                    case rel => exact ⟨q + 1, some dk, by omega, rfl, rfl, by go_num, htf', R6, S6, K6⟩
            · have : q = L := by omega
              subst this
              rw [List.take_of_length_le (by rw [HL.out]; exact Nat.le_refl _), find_dirs hl] at hfo
              clear cp3 ci3 cp ci
              cases o with
              | none =>
                have hnx : wkS W H bl xs (i + 1) = .error 7 := by rw [wkS_next hw]; unfold wk1; rw [if_pos hf, if_neg hi0, hfo]
                have hV := wkV_err hnx (by omega) (show 0 < n by omega)
                obtain ⟨x0, x1, x2, x3⟩ := R3
                go_wp2
                have r0 := setTwo wr w.heap.size 0 0 x0 x1
                exact bodyPost_ret (v := .tuple #[.agg #[.int .i64 0, .int .i64 0], .int .i64 7]) (by simp [results, Tryd.results12, go_sem, r0.1, r0.2]) rfl ⟨by rw [hV], (HB3.setCell (p := ⟨w.heap.size, 0, none⟩) (Nat.le_refl _) _).setCell (p := ⟨w.heap.size, 1, none⟩) (Nat.le_refl _) _⟩
              | some k =>
                have hnx : wkS W H bl xs (i + 1) = .ok (s1 + stS k, d1 + stD k) := by rw [wkS_next hw]; unfold wk1; rw [if_pos hf, if_neg hi0, hfo]
                go_wp2
                go_roundg (n - (i + 1))
                case measure => have := HG.out; omega
                case rel => exact ⟨i + 1, (s1 + stS k, d1 + stD k), by omega, rfl, by go_num, hnx, R3, S3, HB3⟩
      · have hnx : wkS W H bl xs (i + 1) = .error (ffv W H bl (xs i)) := by rw [wkS_next hw]; unfold wk1; rw [if_neg hf]
        have hV := wkV_err hnx (by omega) (show 0 < n by omega)
        have hpos : 0 < ffv W H bl (xs i) := by
          unfold ffv at hf ⊢
          split
          · rename_i h; rw [if_pos h] at hf
            split
            · omega
            · rename_i h2; rw [if_neg h2] at hf; omega
          · omega
        generalize ffv W H bl (xs i) = fv0 at *
        go_wp2_with (go_at_call 15; refine hck.mono ?_; rintro e w1 ⟨rfl, hb1⟩; have R := R.below hb1; have HB := HB.trans (hb1.mono HB.size); obtain ⟨x0, x1, x2, x3⟩ := R)
        have r0 := setTwo w1 w.heap.size 0 0 (Slot.mk x0 x1 x2 x3).c0 (Slot.mk x0 x1 x2 x3).c1
        exact bodyPost_ret (v := .tuple #[.agg #[.int .i64 0, .int .i64 0], .int .i64 fv0]) (by simp [results, Tryd.results12, go_sem, r0.1, r0.2]) rfl ⟨by rw [hV], (HB.setCell (p := ⟨w.heap.size, 0, none⟩) (Nat.le_refl _) _).setCell (p := ⟨w.heap.size, 1, none⟩) (Nat.le_refl _) _⟩
    · have : i = n := by omega
      subst this
      obtain ⟨y0, y1, y2, y3⟩ := R
      obtain ⟨x0, x1, x2, x3⟩ := S
      by_cases h00 : i = 0
      · subst h00
        have hV : wkV W H bl xs 0 = ((0, 0), 7) := rfl
        go_wp2
        have r0 := setTwo wr w.heap.size 0 0 (Slot.mk y0 y1 y2 y3).c0 (Slot.mk y0 y1 y2 y3).c1
        exact bodyPost_ret (v := .tuple #[.agg #[.int .i64 0, .int .i64 0], .int .i64 7]) (by simp [results, Tryd.results12, go_sem, r0.1, r0.2]) rfl ⟨by rw [hV], (HB.setCell (p := ⟨w.heap.size, 0, none⟩) (Nat.le_refl _) _).setCell (p := ⟨w.heap.size, 1, none⟩) (Nat.le_refl _) _⟩
      · have hV := wkV_ok hw (show 0 < i by omega)
        have hib : ((i : Int) == 0) = false := by simp; omega
        have hie : ¬ (i : Int) = 0 := by omega
        go_wp2
        have r0 := setTwo wr w.heap.size s1 d1 (Slot.mk y0 y1 y2 y3).c0 (Slot.mk y0 y1 y2 y3).c1
        exact bodyPost_ret (v := .tuple #[.agg #[.int .i64 s1, .int .i64 d1], .int .i64 0]) (by simp [results, Tryd.results12, go_sem, r0.1, r0.2]) rfl ⟨by rw [hV], (HB.setCell (p := ⟨w.heap.size, 0, none⟩) (Nat.le_refl _) _).setCell (p := ⟨w.heap.size, 1, none⟩) (Nat.le_refl _) _⟩
end Go.Proofs.YtfhicijgpdpfpaaDoor
