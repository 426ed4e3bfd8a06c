/-
  Texts laid together: WalkP, RCost, WalkR, Trail.
-/
import Derived.Test.YtfhicijgpdpfpaaDoorP12
import Derived.Deep.RegionWith
/-
  What a walk costs: the program's.
-/
namespace Go.Proofs.YtfhicijgpdpfpaaDoor
open Go.RowKit

/-- the direction from a cell to another one -/
def stepD (W H : Int) (bl : Nat → Bool) (a b : Int) : Option Nat := (List.range 8).find? (fun d => mayB W H bl (a % W) (a / W) d && (a + (stepY d * W + stepX d) == b))
/-- one look at a walk -/
def wk1 (W H : Int) (bl : Nat → Bool) (xs : Nat → Int) (i : Nat) (c : Int × Int) : Except Int (Int × Int) :=
  if ffv W H bl (xs i) = 0 then (if i = 0 then .ok c else match stepD W H bl (xs (i - 1)) (xs i) with | none => .error 7 | some k => .ok (c.1 + stS k, c.2 + stD k)) else .error (ffv W H bl (xs i))
/-- what the first ones of a walk cost, or what is wrong -/
def wkS (W H : Int) (bl : Nat → Bool) (xs : Nat → Int) : Nat → Except Int (Int × Int)
  | 0 => .ok (0, 0)
  | i + 1 => match wkS W H bl xs i with | .error e => .error e | .ok c => wk1 W H bl xs i c
/-- what a walk costs, and its fault -/
def wkV (W H : Int) (bl : Nat → Bool) (xs : Nat → Int) (n : Nat) : (Int × Int) × Int := if n = 0 then ((0, 0), 7) else match wkS W H bl xs n with | .error e => ((0, 0), e) | .ok c => (c, 0)

theorem wkS_stuck {W H : Int} {bl : Nat → Bool} {xs : Nat → Int} {i : Nat} {e : Int} (h : wkS W H bl xs i = .error e) : ∀ n, i ≤ n → wkS W H bl xs n = Except.error e := by
  intro n hn
  induction n with
  | zero => have : i = 0 := by omega
            subst this; exact h
  | succ n ih =>
    by_cases q : i = n + 1
    · subst q; exact h
    · rw [wkS, ih (by omega)]
theorem wkV_err {W H : Int} {bl : Nat → Bool} {xs : Nat → Int} {i n : Nat} {e : Int} (h : wkS W H bl xs i = .error e) (hn : i ≤ n) (h0 : 0 < n) : wkV W H bl xs n = ((0, 0), e) := by
  unfold wkV; rw [if_neg (by omega), wkS_stuck h n hn]
theorem wkV_ok {W H : Int} {bl : Nat → Bool} {xs : Nat → Int} {n : Nat} {c : Int × Int} (h : wkS W H bl xs n = .ok c) (h0 : 0 < n) : wkV W H bl xs n = (c, 0) := by
  unfold wkV; rw [if_neg (by omega), h]
theorem wkS_next {W H : Int} {bl : Nat → Bool} {xs : Nat → Int} {i : Nat} {c : Int × Int} (h : wkS W H bl xs i = .ok c) : wkS W H bl xs (i + 1) = wk1 W H bl xs i c := by
  rw [wkS, h]
theorem wkS_back {W H : Int} {bl : Nat → Bool} {xs : Nat → Int} {i : Nat} {c : Int × Int} (h : wkS W H bl xs (i + 1) = .ok c) : ∃ c0, wkS W H bl xs i = .ok c0 ∧ wk1 W H bl xs i c0 = .ok c := by
  rw [wkS] at h
  cases hw : wkS W H bl xs i with
  | error e => rw [hw] at h; cases h
  | ok c0 => rw [hw] at h; exact ⟨c0, rfl, h⟩
theorem wkS_bd {W H : Int} {bl : Nat → Bool} {xs : Nat → Int} : ∀ {i : Nat} {c : Int × Int}, wkS W H bl xs i = .ok c → 0 ≤ c.1 ∧ c.1 ≤ i ∧ 0 ≤ c.2 ∧ c.2 ≤ i := by
  intro i
  induction i with
  | zero => intro c h; rw [wkS] at h; cases h; decide
  | succ i ih =>
    intro c h
    obtain ⟨c0, h1, h2⟩ := wkS_back h
    have := ih h1
    unfold wk1 at h2
    by_cases a1 : ffv W H bl (xs i) = 0
    · rw [if_pos a1] at h2
      by_cases a2 : i = 0
      · rw [if_pos a2] at h2; cases h2; omega
      · rw [if_neg a2] at h2
        cases hs : stepD W H bl (xs (i - 1)) (xs i) with
        | none => rw [hs] at h2; cases h2
        | some k =>
          rw [hs] at h2; cases h2
          have := st_bd k
          simp only
          omega
    · rw [if_neg a1] at h2; cases h2
/-- all but the last one are cells -/
theorem wkS_in {W H : Int} {bl : Nat → Bool} {xs : Nat → Int} {i : Nat} {c : Int × Int} (h : wkS W H bl xs (i + 1) = .ok c) : inB W H (xs i) = true := by
  obtain ⟨c0, h1, h2⟩ := wkS_back h
  unfold wk1 at h2
  by_cases a1 : ffv W H bl (xs i) = 0
  · unfold ffv at a1
    by_cases a2 : inB W H (xs i) = true
    · exact a2
    · rw [if_neg a2] at a1; omega
  · rw [if_neg a1] at h2; cases h2
/-- what 'between' tells is the direction -/
theorem found_stepD {W H r t : Int} {bl : Nat → Bool} {ok : Bool} {f : Nat} (h : Found (fun d => mayB W H bl ((f : Int) % W) ((f : Int) / W) d && ((f : Int) + (stepY d * W + stepX d) == t)) r ok) :
    (ok = true ∧ ∃ k : Nat, k < 8 ∧ r = k ∧ stepD W H bl f t = some k) ∨ (ok = false ∧ stepD W H bl f t = none) := by
  rcases h with ⟨h1, d, hd, hr, hq, hno⟩ | ⟨h1, _, hno⟩
  · left
    refine ⟨h1, d, hd, hr, ?_⟩
    unfold stepD
    rw [List.find?_range_eq_some]
    exact ⟨hq, by simpa using hd, fun e he => by have := hno e he; simp only at this; rw [this]; rfl⟩
  · right
    refine ⟨h1, ?_⟩
    unfold stepD
    rw [List.find?_range_eq_none]
    intro e he
    have := hno e he
    simp only at this
    rw [this]; rfl

set_option maxHeartbeats 2000000 in
set_option maxRecDepth 1000000 in
theorem walk_none {b cap : Nat} {A : Option Addr} (w : World) :
    Calls Tryd.prog 11 #[.pointer (some ⟨b, 0, none⟩), .slice A 0 cap] w fun e w' => e = .returned (.tuple #[.agg #[.int .i64 0, .int .i64 0], errV 7]) ∧ Below w.heap.size w w' := by
  go_enter Tryd.func11, Tryd.ntmps11
  go_wp2
  exact bodyPost_ret (v := .tuple #[.agg #[.int .i64 0, .int .i64 0], .iface 78 (.int .i64 7)]) (by simp [results, Tryd.results11, go_sem]) rfl ⟨rfl, (Below.refl _ _).alloc (Nat.le_refl _) _⟩

/-- a cost in a block of one's own -/
structure Slot (w : World) (B : Nat) (s d : Int) : Prop where
  c0 : w.cell? ⟨B, 0, none⟩ = some (.int .i64 s)
  c1 : w.cell? ⟨B, 1, none⟩ = some (.int .i64 d)
  z0 : w.frozen? ⟨B, 0, none⟩ = false
  z1 : w.frozen? ⟨B, 1, none⟩ = false
theorem Slot.keep {F : Nat → Prop} {w w' : World} {B : Nat} {s d : Int} (h : Slot w B s d) (K : Keep F w w') (hn : ¬ F B) : Slot w' B s d := by
  have hB := World.block_lt_of_cell? w _ h.c0
  exact ⟨K.cellOf h.c0 hn, K.cellOf h.c1 hn, (K.frozen (p := ⟨B, 0, none⟩) hB hn).trans h.z0, (K.frozen (p := ⟨B, 1, none⟩) hB hn).trans h.z1⟩
theorem Slot.below {w w' : World} {B : Nat} {s d : Int} (h : Slot w B s d) (hb : Below w.heap.size w w') : Slot w' B s d := h.keep (F := fun _ => False) (Keep.of_below hb) id
theorem Slot.new (w : World) (s d : Int) : Slot (w.alloc (.cells #[.int .i64 s, .int .i64 d] 31)) w.heap.size s d :=
  ⟨World.cell?_alloc_at #[.int .i64 s, .int .i64 d] 31 w.heap.size 0 rfl, World.cell?_alloc_at #[.int .i64 s, .int .i64 d] 31 w.heap.size 1 rfl, free_alloc w #[.int .i64 s, .int .i64 d] 31 w.heap.size (Nat.le_refl _) 0, free_alloc w #[.int .i64 s, .int .i64 d] 31 w.heap.size (Nat.le_refl _) 1⟩

theorem setTwo (w : World) (B : Nat) (s d : Int) {x y : Value} (h0 : w.cell? ⟨B, 0, none⟩ = some x) (h1 : w.cell? ⟨B, 1, none⟩ = some y) :
    ((w.setCell ⟨B, 0, none⟩ (.int .i64 s)).setCell ⟨B, 1, none⟩ (.int .i64 d)).cell? ⟨B, 0, none⟩ = some (.int .i64 s) ∧ ((w.setCell ⟨B, 0, none⟩ (.int .i64 s)).setCell ⟨B, 1, none⟩ (.int .i64 d)).cell? ⟨B, 1, none⟩ = some (.int .i64 d) := by
  constructor
  · rw [World.cell?_setCell_other _ _ _ _ (by intro e; cases e)]; exact World.cell?_setCell_same _ _ _ h0
  · refine World.cell?_setCell_same _ _ _ (u := y) ?_
    rw [World.cell?_setCell_other _ _ _ _ (by intro e; cases e)]; exact h1

theorem Slot.set {w : World} {B : Nat} {x y : Int} (S : Slot w B x y) (s d : Int) : Slot ((w.setCell ⟨B, 0, none⟩ (.int .i64 s)).setCell ⟨B, 1, none⟩ (.int .i64 d)) B s d := by
  have r := setTwo w B s d S.c0 S.c1
  exact ⟨r.1, r.2, by simpa using S.z0, by simpa using S.z1⟩
theorem set_keep (w : World) (B : Nat) (s d : Int) : Keep (fun k => k = B) w ((w.setCell ⟨B, 0, none⟩ (.int .i64 s)).setCell ⟨B, 1, none⟩ (.int .i64 d)) :=
  ((Keep.refl (fun k => k = B) w).setCell (p := ⟨B, 0, none⟩) (fun _ => rfl) _).setCell (p := ⟨B, 1, none⟩) (fun _ => rfl) _

set_option maxHeartbeats 4000000 in
set_option maxRecDepth 1000000 in
theorem walk_some {b n cap : Nat} {A : Option Addr} {W H V : Int} {bl : Nat → Bool} {xs : Nat → Int} (w : World) (g : GridAt w b W H V bl) (s : StepsAt w) (hb : b < w.heap.size) (hx : OldRow w A n xs) (hn : n ≤ 300) (h0 : 0 < n) :
    Calls Tryd.prog 11 #[.pointer (some ⟨b, 0, none⟩), .slice A n cap] w fun e w' => e = .returned (.tuple #[.agg #[.int .i64 (wkV W H bl xs n).1.1, .int .i64 (wkV W H bl xs n).1.2], errV (wkV W H bl xs n).2]) ∧ Below w.heap.size w w' := by
  have l0 : ¬ (n : Int) = 0 := by omega
  have l0b : ((n : Int) == 0) = false := by simpa using l0
  have R0 : Slot ((w.alloc (.cells #[.int .i64 0, .int .i64 0] 31)).alloc (.cells #[.int .i64 0, .int .i64 0] 31)) w.heap.size 0 0 := (Slot.new w 0 0).below ((Below.refl _ _).alloc (Nat.le_refl _) _)
  have S0 : Slot ((w.alloc (.cells #[.int .i64 0, .int .i64 0] 31)).alloc (.cells #[.int .i64 0, .int .i64 0] 31)) (w.heap.size + 1) 0 0 := by
    have := Slot.new (w.alloc (.cells #[.int .i64 0, .int .i64 0] 31)) 0 0
    have e : (w.alloc (.cells #[.int .i64 0, .int .i64 0] 31)).heap.size = w.heap.size + 1 := by simp
    rw [e] at this
    exact this
  have HB0 : Below w.heap.size w ((w.alloc (.cells #[.int .i64 0, .int .i64 0] 31)).alloc (.cells #[.int .i64 0, .int .i64 0] 31)) := ((Below.refl _ _).alloc (Nat.le_refl _) _).alloc (by simp) _
  go_enter Tryd.func11, Tryd.ntmps11
  go_wp2
  go_loopg [19] n (fun gk iv wr => ∃ (i : Nat) (c : Int × Int), i ≤ n ∧ gk = n - i ∧ iv = .int .i64 i ∧ wkS W H bl xs i = .ok c ∧ Slot wr w.heap.size 0 0 ∧ Slot wr (w.heap.size + 1) c.1 c.2 ∧ Below w.heap.size w wr)
  case atStart => exact ⟨0, (0, 0), by omega, rfl, rfl, rfl, R0, S0, HB0⟩
  case round =>
    clear R0 S0 HB0
    obtain ⟨i, ⟨s1, d1⟩, hi, hgk, rfl, hw, R, S, HB⟩ := hrel
    have HG : Hid (gk = n - i) := hgk
    clear hgk
    have gr := g.below HB hb
    have sr := s.below HB s.pos
    have hbd := wkS_bd hw
    simp only at hbd S
    by_cases hlt : i < n
    · have hlt' : (i : Int) < (n : Int) := by omega
      obtain ⟨ba, oa, rfl, hba, hcell⟩ := hx i hlt
      have ci : wr.cell? ⟨ba, oa + i, none⟩ = some (.int .i64 (xs i)) := (HB.cell (p := ⟨ba, oa + i, none⟩) hba).trans hcell
      clear hcell
      have hck := check_any (xs i) wr gr
      by_cases hf : ffv W H bl (xs i) = 0
      · have ev : errV (ffv W H bl (xs i)) = .nilIface := by rw [hf]; rfl
        rw [ev] at hck
        by_cases hi0 : i = 0
        · subst hi0
          have ci' : wr.cell? ⟨ba, oa, none⟩ = some (.int .i64 (xs 0)) := ci
          have hnx : wkS W H bl xs (0 + 1) = .ok (s1, d1) := by rw [wkS_next hw]; unfold wk1; rw [if_pos hf, if_pos rfl]
          go_wp2_with (go_at_call 45; refine hck.mono ?_; rintro e w1 ⟨rfl, hb1⟩)
          go_roundg (n - (0 + 1))
          case measure => have := HG.out; omega
          case rel => exact ⟨0 + 1, (s1, d1), by omega, rfl, by go_num, hnx, R.below hb1, S.below hb1, HB.trans (hb1.mono HB.size)⟩
        · have hib : ((i : Int) == 0) = false := by simp; omega
          have hie : ¬ (i : Int) = 0 := by omega
          obtain ⟨c0, hw0, hw1⟩ := wkS_back (i := i - 1) (by rw [Nat.sub_add_cancel (by omega)]; exact hw)
          have hin : inB W H (xs (i - 1)) = true := wkS_in (i := i - 1) (by rw [Nat.sub_add_cancel (by omega)]; exact hw)
          have hc2 : 0 ≤ xs (i - 1) ∧ xs (i - 1) < W * H := of_decide_eq_true hin
          obtain ⟨ba', oa', e, hba', hcell'⟩ := hx (i - 1) (by omega)
          cases e
          have cp : wr.cell? ⟨ba, oa + (i - 1), none⟩ = some (.int .i64 (xs (i - 1))) := (HB.cell (p := ⟨ba, oa + (i - 1), none⟩) hba).trans hcell'
          have hti : ((i : Int) - 1).toNat = i - 1 := by omega
          have j1 : (0 : Int) ≤ (i : Int) - 1 := by omega
          have j2 : (i : Int) - 1 < (n : Int) := by omega
          obtain ⟨pn, hpn⟩ : ∃ pn : Nat, xs (i - 1) = pn := ⟨(xs (i - 1)).toNat, by omega⟩
          rw [hpn] at cp hin
          clear hcell' hw0 hw1 hc2
          go_wp2_with (go_at_call 45; refine hck.mono ?_; rintro e w1 ⟨rfl, hb1⟩; have cp := (hb1.cell (World.block_lt_of_cell? _ _ cp)).trans cp)
          refine (between_any pn (xs i) rfl rfl w1 (gr.below hb1 (Nat.lt_of_lt_of_le hb HB.size)) (sr.below hb1 sr.pos) (Nat.lt_of_lt_of_le (Nat.lt_of_lt_of_le hb HB.size) hb1.size) hin).mono ?_
          rintro e w2 ⟨r, ok, rfl, hFo, hb2⟩
          have hb12 : Below wr.heap.size wr w2 := hb1.trans (hb2.mono hb1.size)
          have R2 := R.below hb12
          have S2 := S.below hb12
          have HB2 := HB.trans (hb12.mono HB.size)
          have sr2 := s.below HB2 s.pos
          clear R S hb1 hb2 hck
          rcases found_stepD hFo with ⟨rfl, k, hk8, rfl, hsd⟩ | ⟨rfl, hsd⟩
          · have hnx : wkS W H bl xs (i + 1) = .ok (s1 + stS k, d1 + stD k) := by rw [wkS_next hw]; unfold wk1; rw [if_pos hf, if_neg hi0, hpn, hsd]
            have hst := st_bd k
            have hok1 : okC s1 d1 := by unfold okC; omega
            have hok2 : okC (stS k) (stD k) := by unfold okC; omega
            have hadd := fun w => add_any s1 d1 (stS k) (stD k) w hok1 hok2
            have hS3 : Below w.heap.size w w2.drew := ⟨HB2.os, HB2.tape, HB2.output, HB2.size, HB2.block⟩
            have R3 : Slot w2.drew w.heap.size 0 0 := ⟨R2.c0, R2.c1, R2.z0, R2.z1⟩
            have S3 : Slot w2.drew (w.heap.size + 1) s1 d1 := ⟨S2.c0, S2.c1, S2.z0, S2.z1⟩
            have sr3 : StepsAt w2.drew := sr2
            have x0 := S3.c0
            have x1 := S3.c1
            have x2 := S3.z0
            have x3 := S3.z1
            clear S2 R2 HB2 sr2 hFo hsd hw ci cp
            generalize s1 + stS k = A1 at *
            generalize d1 + stD k = A2 at *
            go_wp2
            go_region_with (first | (go_at_call 47; refine (stepCost_any k _ sr3 hk8).mono ?_; rintro e w4 ⟨rfl, hb4⟩; have R3 := R3.below hb4; have S3 := S3.below hb4; have hS3 := hS3.trans (hb4.mono hS3.size); have x0 := S3.c0; have x1 := S3.c1; have x2 := S3.z0; have x3 := S3.z1) | (go_at_call 27; refine (hadd _).mono ?_; rintro e w5 ⟨rfl, hb5⟩; have R3 := R3.below hb5; have S3 := S3.below hb5; have hS3 := hS3.trans (hb5.mono hS3.size); have x0 := S3.c0; have x1 := S3.c1; have x2 := S3.z0; have x3 := S3.z1))
            all_goals
              clear hadd x0 x1 x2 x3
              have S6 := S3.set A1 A2
              have R6 := R3.keep (set_keep _ (w.heap.size + 1) A1 A2) (by omega)
              have HB6 := (hS3.setCell (p := ⟨w.heap.size + 1, 0, none⟩) (Nat.le_succ _) (.int .i64 A1)).setCell (p := ⟨w.heap.size + 1, 1, none⟩) (Nat.le_succ _) (.int .i64 A2)
              clear S3 R3 hS3
              go_wp2
              go_roundg (n - (i + 1))
              case measure => have := HG.out; omega
              case rel => exact ⟨i + 1, (A1, A2), by omega, rfl, by go_num, hnx, R6, S6, HB6⟩
          · have hnx : wkS W H bl xs (i + 1) = .error 7 := by rw [wkS_next hw]; unfold wk1; rw [if_pos hf, if_neg hi0, hpn, hsd]
            have hV := wkV_err hnx (by omega) h0
            obtain ⟨x0, x1, x2, x3⟩ := R2
            go_wp2
            have r0 := setTwo w2 w.heap.size 0 0 (Slot.mk x0 x1 x2 x3).c0 (Slot.mk x0 x1 x2 x3).c1
            exact bodyPost_ret (v := .tuple #[.agg #[.int .i64 0, .int .i64 0], .iface 78 (.int .i64 7)]) (by simp [results, Tryd.results11, go_sem, r0.1, r0.2]) rfl ⟨by rw [hV]; rfl, (HB2.setCell (p := ⟨w.heap.size, 0, none⟩) (Nat.le_refl _) _).setCell (p := ⟨w.heap.size, 1, none⟩) (Nat.le_refl _) _⟩
      · have hnx : wkS W H bl xs (i + 1) = .error (ffv W H bl (xs i)) := by rw [wkS_next hw]; unfold wk1; rw [if_neg hf]
        have hV := wkV_err hnx (by omega) h0
        have ev : errV (ffv W H bl (xs i)) = .iface 78 (.int .i64 (ffv W H bl (xs i))) := by unfold errV; rw [if_neg hf]
        rw [ev] at hck
        generalize ffv W H bl (xs i) = fv0 at *
        go_wp2_with (go_at_call 45; refine hck.mono ?_; rintro e w1 ⟨rfl, hb1⟩; have R := R.below hb1; have HB := HB.trans (hb1.mono HB.size); obtain ⟨x0, x1, x2, x3⟩ := R)
        have r0 := setTwo w1 w.heap.size 0 0 (Slot.mk x0 x1 x2 x3).c0 (Slot.mk x0 x1 x2 x3).c1
        exact bodyPost_ret (v := .tuple #[.agg #[.int .i64 0, .int .i64 0], .iface 78 (.int .i64 fv0)]) (by simp [results, Tryd.results11, go_sem, r0.1, r0.2]) rfl ⟨by rw [hV, ev], (HB.setCell (p := ⟨w.heap.size, 0, none⟩) (Nat.le_refl _) _).setCell (p := ⟨w.heap.size, 1, none⟩) (Nat.le_refl _) _⟩
    · have : i = n := by omega
      subst this
      have hV := wkV_ok hw h0
      obtain ⟨y0, y1, y2, y3⟩ := R
      obtain ⟨x0, x1, x2, x3⟩ := S
      go_wp2
      have r0 := setTwo wr w.heap.size s1 d1 (Slot.mk y0 y1 y2 y3).c0 (Slot.mk y0 y1 y2 y3).c1
      exact bodyPost_ret (v := .tuple #[.agg #[.int .i64 s1, .int .i64 d1], .nilIface]) (by simp [results, Tryd.results11, go_sem, r0.1, r0.2]) rfl ⟨by rw [hV]; rfl, (HB.setCell (p := ⟨w.heap.size, 0, none⟩) (Nat.le_refl _) _).setCell (p := ⟨w.heap.size, 1, none⟩) (Nat.le_refl _) _⟩
end Go.Proofs.YtfhicijgpdpfpaaDoor
/-
  What the reference's functions about costs do, and 'same', 'costs'.
-/
namespace Go.Proofs.YtfhicijgpdpfpaaDoor
open Go.RowKit

/-- the fault's number -/
def flt (s d : Int) : Int := @ite Int (inC s d) (inC_dec s d) 0 1

set_option maxHeartbeats 400000 in
theorem plus_any (s d t u : Int) (w : World) (h : okC s d) (k : okC t u) :
    Calls Tryd.prog 42 #[.agg #[.int .i64 s, .int .i64 d], .agg #[.int .i64 t, .int .i64 u]] w fun e w' => e = .returned (.agg #[.int .i64 (s + t), .int .i64 (d + u)]) ∧ Below w.heap.size w w' := by
  obtain ⟨h1, h2, h3, h4⟩ := h
  obtain ⟨k1, k2, k3, k4⟩ := k
  go_enter Tryd.func42, Tryd.ntmps42
  go_wp2
  exact bodyPost_ret (v := .agg #[.int .i64 (s + t), .int .i64 (d + u)]) (by simp [results, Tryd.results42, go_sem]) rfl ⟨rfl, ((((Below.refl _ _).alloc (Nat.le_refl _) _).alloc (by simp) _).alloc (by simp; omega) _)⟩

theorem neg_sq (x : Int) : -x * -x = x * x := by rw [Int.neg_mul, Int.mul_neg, Int.neg_neg]
theorem irr_pos (x y : Int) (hx : 0 ≤ x) (hy : 0 ≤ y) (hq : y < 38613965) (h : x * x = 2 * (y * y)) : x = 0 := by
  have a := pos_lt x y hx hy hq
  have b := pos_gt x y hx hy hq
  have e : 38613965 * x = 54608393 * y := by
    rcases Int.lt_trichotomy (38613965 * x) (54608393 * y) with k | k | k
    · have := a.mpr k; omega
    · exact k
    · have := b.mpr k; omega
  exact (no_mid x y e (Int.lt_of_lt_of_le (by decide) hy) hq).1
theorem irr (x y : Int) (h1 : -38613965 < y) (h2 : y < 38613965) (h : x * x = 2 * (y * y)) : x = 0 := by
  by_cases hx : 0 ≤ x <;> by_cases hy : 0 ≤ y
  · exact irr_pos x y hx hy h2 h
  · exact irr_pos x (-y) hx (by omega) (by omega) (by rw [neg_sq]; exact h)
  · have := irr_pos (-x) y (by omega) hy h2 (by rw [neg_sq]; exact h)
    omega
  · have := irr_pos (-x) (-y) (by omega) (by omega) (by omega) (by rw [neg_sq, neg_sq]; exact h)
    omega
theorem sq_pos (x : Int) : x = 0 ∨ 0 < x * x := by
  by_cases h : x = 0
  · left; exact h
  · right
    have := mul_self_nonneg x
    by_cases g : x * x = 0
    · exact absurd (sq_zero x g) h
    · omega
/-- what decides: the differences' signs and squares -/
theorem cmpC_of (s d t u r : Int) (h1 : -38613965 < d - u) (h2 : d - u < 38613965)
    (H : ∀ X Y : Int, (s - t = 0 ∨ 0 < X) → (d - u = 0 ∨ 0 < Y) → (s - t = 0 → X = 0) → (d - u = 0 → Y = 0) → (X = 2 * Y → s - t = 0) → X = (s - t) * (s - t) → Y = (d - u) * (d - u) →
      ∀ A B : Int, (s - t < 0 → A = -X) → (¬ s - t < 0 → A = X) → (d - u > 0 → B = -Y) → (¬ d - u > 0 → B = Y) → (r = -1 ∧ A < 2 * B) ∨ (r = 0 ∧ A = 2 * B) ∨ (r = 1 ∧ 2 * B < A)) :
    cmpC s d t u = r := by
  have h := H _ _ (sq_pos (s - t)) (sq_pos (d - u)) (fun e => by rw [e]; rfl) (fun e => by rw [e]; rfl) (irr (s - t) (d - u) h1 h2) rfl rfl (if s - t < 0 then -((s - t) * (s - t)) else (s - t) * (s - t)) (if d - u > 0 then -((d - u) * (d - u)) else (d - u) * (d - u)) (fun e => by rw [if_pos e]) (fun e => by rw [if_neg e]) (fun e => by rw [if_pos e]) (fun e => by rw [if_neg e])
  have e1 : sqs (s - t) = if s - t < 0 then -((s - t) * (s - t)) else (s - t) * (s - t) := by unfold sqs; rw [Int.neg_mul]
  have e2 : sqs (u - d) = if d - u > 0 then -((d - u) * (d - u)) else (d - u) * (d - u) := by
    have n : u - d = -(d - u) := by omega
    rw [n, sqs_neg]
    unfold sqs
    rw [Int.neg_mul]
    by_cases c : d - u < 0
    · rw [if_pos c, if_neg (by omega), Int.neg_neg]
    · rw [if_neg c]
      by_cases c2 : d - u > 0
      · rw [if_pos c2]
      · rw [if_neg c2]
        have : d - u = 0 := by omega
        rw [this]; rfl
  unfold cmpC cmpI
  rw [e1, e2]
  rcases h with ⟨rfl, h⟩ | ⟨rfl, h⟩ | ⟨rfl, h⟩
  · rw [if_pos h]
  · rw [h, if_neg (by omega)]; simp
  · rw [if_neg (by omega), if_pos h]

theorem ret_int {k : IntKind} {a b : Int} (h : a = b) : Ending.returned (.int k a) = .returned (.int k b) := by rw [h]

set_option maxHeartbeats 1000000 in
theorem rcmp_any (s d t u : Int) (w : World) (h : okC s d) (k : okC t u) :
    Calls Tryd.prog 52 #[.agg #[.int .i64 s, .int .i64 d], .agg #[.int .i64 t, .int .i64 u]] w fun e w' => e = .returned (.int .i64 (cmpC s d t u)) ∧ Below w.heap.size w w' := by
  obtain ⟨h1, h2, h3, h4⟩ := h
  obtain ⟨k1, k2, k3, k4⟩ := k
  have hB : Below w.heap.size w ((w.alloc (.cells #[.int .i64 s, .int .i64 d] 31)).alloc (.cells #[.int .i64 t, .int .i64 u] 31)) := ((Below.refl _ _).alloc (Nat.le_refl _) _).alloc (by simp) _
  have bx := mul_self_bd (s - t) (by omega) (by omega)
  have by_ := mul_self_bd (d - u) (by omega) (by omega)
  have e2 : 2 * (d - u) * (d - u) = 2 * ((d - u) * (d - u)) := Int.mul_assoc _ _ _
  have by2 : 0 ≤ 2 * (d - u) * (d - u) ∧ 2 * (d - u) * (d - u) ≤ 8796093022208 := by rw [e2]; omega
  go_enter Tryd.func52, Tryd.ntmps52
  go_wp2
  all_goals
    go_ret
    refine ⟨ret_int (Eq.symm (cmpC_of s d t u _ (by omega) (by omega) ?_)), hB⟩
    clear hB bx by_ e2 by2
    intro X Y p1 p2 p3 p4 p5 eX eY A B q1 q2 q3 q4
    simp only [← eX, ← eY, beq_iff_eq, beq_eq_false_iff_ne, ne_eq, decide_eq_decide, true_and] at *
    clear eX eY
    omega
end Go.Proofs.YtfhicijgpdpfpaaDoor
/-
  What a walk costs: the reference's.
-/
namespace Go.Proofs.YtfhicijgpdpfpaaDoor
open Go.RowKit

theorem step_inj {d e : Nat} (hd : d < 8) (he : e < 8) (hx : stepX d = stepX e) (hy : stepY d = stepY e) : d = e := by
  have h : ∀ d : Fin 8, ∀ e : Fin 8, stepX d = stepX e → stepY d = stepY e → d = e := by decide
  have := h ⟨d, hd⟩ ⟨e, he⟩ hx hy
  exact congrArg Fin.val this

/-- two directions that may be gone come to two cells -/
theorem one_dir {W H a : Int} {bl : Nat → Bool} {d e : Nat} (w1 : 1 ≤ W) (hd : d < 8) (he : e < 8) (md : mayB W H bl (a % W) (a / W) d = true) (me : mayB W H bl (a % W) (a / W) e = true) (h : a + (stepY d * W + stepX d) = a + (stepY e * W + stepX e)) : d = e := by
  have key : ∀ {k : Nat}, mayB W H bl (a % W) (a / W) k = true → (a + (stepY k * W + stepX k)) % W = a % W + stepX k ∧ (a + (stepY k * W + stepX k)) / W = a / W + stepY k := by
    intro k mk
    obtain ⟨_, o2, _, _⟩ := may_parts mk
    obtain ⟨a1, a2, a3, a4⟩ := open_in o2
    have e : a + (stepY k * W + stepX k) = (a / W + stepY k) * W + (a % W + stepX k) := by
      have := cell_eq W a
      rw [Int.add_mul]
      omega
    obtain ⟨p1, p2, p3⟩ := place_to (H := H) w1 a1 a2 a3 a4
    rw [e, p2, p3]
    exact ⟨rfl, rfl⟩
  obtain ⟨k1, k2⟩ := key md
  obtain ⟨j1, j2⟩ := key me
  rw [h] at k1 k2
  exact step_inj hd he (by omega) (by omega)

/-- does a direction come to this cell? -/
def hitB (W a t : Int) (d : Nat) : Bool := a + (stepY d * W + stepX d) == t

theorem find_dirs {W H a t : Int} {bl : Nat → Bool} {l : List Nat} (hl : DirsOf W H bl a l) : l.find? (hitB W a t) = stepD W H bl a t := by
  rw [← hl.eq]
  unfold mvs stepD
  rw [List.find?_filter]
  congr 1
  funext d
  unfold hitB
  rw [Bool.eq_iff_iff]
  simp

theorem take_find {l : List Nat} {p : Nat → Bool} {q : Nat} (hq : q < l.length) : (l.take (q + 1)).find? p = ((l.take q).find? p).or (if p (l.getD q 0) then some (l.getD q 0) else none) := by
  rw [List.take_add_one, List.find?_append, List.getElem?_eq_getElem hq, getD_at _ _ hq]
  simp

theorem take_once {W H a t : Int} {bl : Nat → Bool} {l : List Nat} {q k : Nat} (w1 : 1 ≤ W) (hl : DirsOf W H bl a l) (hq : q < l.length) (h : (l.take q).find? (hitB W a t) = some k) : hitB W a t (l.getD q 0) = false := by
  cases hh : hitB W a t (l.getD q 0) with
  | false => rfl
  | true =>
    exfalso
    have hk : hitB W a t k = true := List.find?_some h
    have hmem := List.mem_of_find?_eq_some h
    obtain ⟨j, hj, hjk⟩ := List.mem_iff_getElem.mp hmem
    rw [List.length_take] at hj
    rw [List.getElem_take] at hjk
    have mk : ∀ i (hi : i < l.length), l[i] < 8 ∧ mayB W H bl (a % W) (a / W) l[i] = true := fun i hi => by
      have hi' : i < (mvs W H bl (a % W) (a / W) 8).length := by rw [hl.eq]; exact hi
      have := mvs_at hi'
      rw [hl.eq, getD_at _ _ hi] at this
      exact this
    have hjl : j < l.length := by omega
    obtain ⟨a1, a2⟩ := mk j hjl
    obtain ⟨b1, b2⟩ := mk q hq
    unfold hitB at hh hk
    rw [getD_at _ _ hq] at hh
    rw [beq_iff_eq] at hh hk
    rw [← hjk] at hk
    have := one_dir w1 a1 b1 a2 b2 (by rw [hk, hh])
    have hs := mvs_sorted W H (a % W) (a / W) bl 8
    rw [hl.eq, List.pairwise_iff_getElem] at hs
    have := hs j q hjl hq (by omega)
    omega

theorem rmoves_b {b : Nat} {W H V c : Int} {bl : Nat → Bool} {l : List Nat} (hl : DirsOf W H bl c l) (w : World) (g : RefAt w b W H V bl) (hr : inB W H c = true) (hb : b < w.heap.size) :
    Calls Tryd.prog 24 #[.pointer (some ⟨b, 0, none⟩), .int .i64 c] w fun e w' => ∃ A cap, e = .returned (.slice A l.length cap) ∧ (OldRow w' A l.length (fun i => (l.getD i 0 : Nat)) ∧ ∀ g o, A = some ⟨g, o, none⟩ → w.heap.size ≤ g) ∧ Below w.heap.size w w' :=
  (rmoves_in c w g hr hb).mono fun e w' ⟨v, he, hown, hbl⟩ => by
    rw [hl.eq] at hown
    obtain ⟨A, cap, rfl, hrow⟩ := row_of hown
    refine ⟨A, cap, he, ⟨hrow, fun g o e => ?_⟩, hbl⟩
    rcases hown.2 with ⟨hv, _⟩ | ⟨g', cap', cur, hv, hg, _⟩
    · simp only [Value.slice.injEq] at hv
      rw [hv.1] at e; cases e
    · simp only [Value.slice.injEq] at hv
      rw [hv.1] at e; cases e; exact hg

/-- what a walk costs behind a step that was found, or was not -/
def addO (s d : Int) (o : Option Nat) : Int × Int := match o with | none => (s, d) | some k => (s + stS k, d + stD k)

set_option maxHeartbeats 4000000 in
set_option maxRecDepth 1000000 in
theorem rwalk_any {b n cap : Nat} {A : Option Addr} {W H V : Int} {bl : Nat → Bool} {xs : Nat → Int} (w : World) (g : RefAt w b W H V bl) (hb : b < w.heap.size) (hx : OldRow w A n xs) (hn : n ≤ 1000) :
    Calls Tryd.prog 12 #[.pointer (some ⟨b, 0, none⟩), .slice A n cap] w fun e w' => e = .returned (.tuple #[.agg #[.int .i64 (wkV W H bl xs n).1.1, .int .i64 (wkV W H bl xs n).1.2], .int .i64 (wkV W H bl xs n).2]) ∧ Below w.heap.size w w' := by
  have R0 : Slot ((w.alloc (.cells #[.int .i64 0, .int .i64 0] 31)).alloc (.cells #[.int .i64 0, .int .i64 0] 31)) w.heap.size 0 0 := (Slot.new w 0 0).below ((Below.refl _ _).alloc (Nat.le_refl _) _)
  have S0 : Slot ((w.alloc (.cells #[.int .i64 0, .int .i64 0] 31)).alloc (.cells #[.int .i64 0, .int .i64 0] 31)) (w.heap.size + 1) 0 0 := by
    have := Slot.new (w.alloc (.cells #[.int .i64 0, .int .i64 0] 31)) 0 0
    have e : (w.alloc (.cells #[.int .i64 0, .int .i64 0] 31)).heap.size = w.heap.size + 1 := by simp
    rw [e] at this
    exact this
  have HB0 : Below w.heap.size w ((w.alloc (.cells #[.int .i64 0, .int .i64 0] 31)).alloc (.cells #[.int .i64 0, .int .i64 0] 31)) := ((Below.refl _ _).alloc (Nat.le_refl _) _).alloc (by simp) _
  have w1' := g.w1
  obtain ⟨kk1, kk2⟩ := wh_bd g.w1 g.w2 g.h1 g.h2
  go_enter Tryd.func12, Tryd.ntmps12
  go_wp2
  go_loopg [7] n (fun gk iv wr => ∃ (i : Nat) (c : Int × Int), i ≤ n ∧ gk = n - i ∧ iv = .int .i64 i ∧ wkS W H bl xs i = .ok c ∧ Slot wr w.heap.size 0 0 ∧ Slot wr (w.heap.size + 1) c.1 c.2 ∧ Below w.heap.size w wr)
  case atStart => exact ⟨0, (0, 0), by omega, rfl, rfl, rfl, R0, S0, HB0⟩
  case round =>
    clear R0 S0 HB0
    obtain ⟨i, ⟨s1, d1⟩, hi, hgk, rfl, hw, R, S, HB⟩ := hrel
    have HG : Hid (gk = n - i) := hgk
    clear hgk
    have gr := g.below HB hb
    have hbd := wkS_bd hw
    simp only at hbd S
    by_cases hlt : i < n
    · have hlt' : (i : Int) < (n : Int) := by omega
      obtain ⟨ba, oa, rfl, hba, hcell⟩ := hx i hlt
      have ci : wr.cell? ⟨ba, oa + i, none⟩ = some (.int .i64 (xs i)) := (HB.cell (p := ⟨ba, oa + i, none⟩) hba).trans hcell
      clear hcell
      have hck := ff_any (xs i) wr gr
      by_cases hf : ffv W H bl (xs i) = 0
      · rw [hf] at hck
        by_cases hi0 : i = 0
        · subst hi0
          have ci' : wr.cell? ⟨ba, oa, none⟩ = some (.int .i64 (xs 0)) := ci
          have hnx : wkS W H bl xs (0 + 1) = .ok (s1, d1) := by rw [wkS_next hw]; unfold wk1; rw [if_pos hf, if_pos rfl]
          go_wp2_with (go_at_call 15; refine hck.mono ?_; rintro e w1 ⟨rfl, hb1⟩)
          go_roundg (n - (0 + 1))
          case measure => have := HG.out; omega
          case rel => exact ⟨0 + 1, (s1, d1), by omega, rfl, by go_num, hnx, R.below hb1, S.below hb1, HB.trans (hb1.mono HB.size)⟩
        · have hib : ((i : Int) == 0) = false := by simp; omega
          have hie : ¬ (i : Int) = 0 := by omega
          have hin : inB W H (xs (i - 1)) = true := wkS_in (i := i - 1) (by rw [Nat.sub_add_cancel (by omega)]; exact hw)
          have hc2 : 0 ≤ xs (i - 1) ∧ xs (i - 1) < W * H := of_decide_eq_true hin
          obtain ⟨ba', oa', e, hba', hcell'⟩ := hx (i - 1) (by omega)
          cases e
          have cp : wr.cell? ⟨ba, oa + (i - 1), none⟩ = some (.int .i64 (xs (i - 1))) := (HB.cell (p := ⟨ba, oa + (i - 1), none⟩) hba).trans hcell'
          have hti : ((i : Int) - 1).toNat = i - 1 := by omega
          have j1 : (0 : Int) ≤ (i : Int) - 1 := by omega
          have j2 : (i : Int) - 1 < (n : Int) := by omega
          obtain ⟨l, hl⟩ := dirsOf (W := W) (H := H) bl (xs (i - 1)) w1'
          clear hcell'
          go_wp2_with (go_at_call 15; refine hck.mono ?_; rintro e w1 ⟨rfl, hb1⟩; have cp := (hb1.cell (World.block_lt_of_cell? _ _ cp)).trans cp; have ci := (hb1.cell (World.block_lt_of_cell? _ _ ci)).trans ci)
          refine (rmoves_b hl w1 (gr.below hb1 (Nat.lt_of_lt_of_le hb HB.size)) hin (Nat.lt_of_lt_of_le (Nat.lt_of_lt_of_le hb HB.size) hb1.size)).mono ?_
          rintro e w2 ⟨A1, cap1, rfl, ⟨hrow, hnew⟩, hb2⟩
          have hnew1 : ∀ g o, A1 = some ⟨g, o, none⟩ → wr.heap.size ≤ g := fun g o e => Nat.le_trans hb1.size (hnew g o e)
          have hNr : w.heap.size + 1 < wr.heap.size := World.block_lt_of_cell? wr _ S.c0
          have hb12 : Below wr.heap.size wr w2 := hb1.trans (hb2.mono hb1.size)
          have R2 := R.below hb12
          have S2 := S.below hb12
          have HB2 := HB.trans (hb12.mono HB.size)
          have cp := (hb2.cell (World.block_lt_of_cell? _ _ cp)).trans cp
          have ci := (hb2.cell (World.block_lt_of_cell? _ _ ci)).trans ci
          clear R S hb1 hb2 hck gr hb12
          have hl8 := hl.len
          obtain ⟨L, hL⟩ : ∃ L, l.length = L := ⟨_, rfl⟩
          have HL : Hid (l.length = L) := hL
          rw [hL] at hrow hl8 ⊢
          clear hL
          have HC2 : Hid (0 ≤ xs (i - 1) ∧ xs (i - 1) < W * H) := hc2
          have hpb1 : -1000 ≤ xs (i - 1) := by omega
          have hpb2 : xs (i - 1) ≤ 1000 := by omega
          clear hc2
          go_wp2
          go_loopg [10, 11] L (fun gk fv kv wq => ∃ (q : Nat) (o : Option Nat), q ≤ L ∧ gk = L - q ∧ fv = .bool o.isSome ∧ kv = .int .i64 q ∧ (l.take q).find? (hitB W (xs (i - 1)) (xs i)) = o ∧ Slot wq w.heap.size 0 0 ∧ Slot wq (w.heap.size + 1) (addO s1 d1 o).1 (addO s1 d1 o).2 ∧ Keep (fun k => k = w.heap.size + 1) w2 wq)
          case atStart => exact ⟨0, none, by omega, rfl, rfl, rfl, rfl, R2, S2, Keep.refl _ _⟩
          case round =>
            clear R2 S2
            obtain ⟨q, o, hq, hgq, rfl, rfl, hfo, R3, S3, K3⟩ := hrel
            have HGq : Hid (gk = L - q) := hgq
            clear hgq
            have HB3 : Below w.heap.size w wr := HB2.trans (K3.to_below HB2.size (fun k hk => by omega))
            have g3 := g.below HB3 hb
            have cp3 : wr.cell? ⟨ba, oa + (i - 1), none⟩ = some (.int .i64 (xs (i - 1))) := K3.cellOf cp (by show ¬ ba = _; omega)
            have ci3 : wr.cell? ⟨ba, oa + i, none⟩ = some (.int .i64 (xs i)) := K3.cellOf ci (by show ¬ ba = _; omega)
            by_cases hqlt : q < L
            · have hqlt' : (q : Int) < (L : Int) := by omega
              have hq0 : (0 : Int) ≤ (q : Int) := by omega
              have hql : q < l.length := by rw [HL.out]; exact hqlt
              obtain ⟨bs, os, rfl, hbs, hcell⟩ := hrow q hqlt
              have hbn := hnew1 bs os rfl
              have cl : wr.cell? ⟨bs, os + q, none⟩ = some (.int .i64 ((l.getD q 0 : Nat) : Int)) := K3.cellOf hcell (by show ¬ bs = _; omega)
              clear hcell hrow
              have hd8 := hl.lt q hql
              have htf := take_find (p := hitB W (xs (i - 1)) (xs i)) hql
              rw [hfo] at htf
              cases hh : hitB W (xs (i - 1)) (xs i) (l.getD q 0) with
              | false =>
                rw [hh] at htf
                have htf' : (l.take (q + 1)).find? (hitB W (xs (i - 1)) (xs i)) = o := by rw [htf]; cases o <;> rfl
                unfold hitB at hh
                have hto := fun w g => rto_v (b := b) (W := W) (H := H) (V := V) (bl := bl) (c := xs (i - 1)) (d := l.getD q 0) rfl w g hd8 hpb1 hpb2
                generalize xs (i - 1) + (stepY (l.getD q 0) * W + stepX (l.getD q 0)) = r at *
                generalize l.getD q 0 = dk at *
                have hrt : ¬ r = xs i := by simpa using hh
                clear htf hh hfo
                go_wp2
                go_quiet ((go_at_call 48; exact Calls.quiet_of_same (hto _ (g3.drewN _))))
                go_wp2
                go_roundg (L - (q + 1))
                case measure => have := HGq.out; omega
                case rel => exact ⟨q + 1, o, by omega, rfl, rfl, by go_num, htf', R3.below (below_drewN (Below.refl _ _) _), S3.below (below_drewN (Below.refl _ _) _), K3.drewN _⟩
              | true =>
                cases o with
                | some k => exact absurd (take_once w1' hl hql hfo) (by rw [hh]; simp)
                | none =>
                  rw [hh] at htf
                  have htf' : (l.take (q + 1)).find? (hitB W (xs (i - 1)) (xs i)) = some (l.getD q 0) := htf
                  unfold hitB at hh
                  have hto := fun w g => rto_v (b := b) (W := W) (H := H) (V := V) (bl := bl) (c := xs (i - 1)) (d := l.getD q 0) (r := xs i) (by simpa using hh) w g hd8 hpb1 hpb2
                  generalize l.getD q 0 = dk at *
                  clear htf hh hfo
                  go_wp2
                  go_quiet ((go_at_call 48; exact Calls.quiet_of_same (hto _ (g3.drewN _))))
                  go_wp2
                  have hrem : Int.tmod (dk : Int) 2 = stD dk := by unfold stD; rw [Int.tmod_eq_emod_of_nonneg (by omega)]; omega
                  have hsub : 1 - stD dk = stS dk := by unfold stS stD; omega
                  have hst := st_bd dk
                  have hok1 : okC s1 d1 := by unfold okC; omega
                  have hok2 : okC (stS dk) (stD dk) := by unfold okC; omega
                  have hadd := fun w => plus_any s1 d1 (stS dk) (stD dk) w hok1 hok2
                  have hu : IntKind.i64.wrap (stS dk) = stS dk := wrap_small (by omega) (by omega)
                  have S4 : Slot (wr.drewN nq).drew (w.heap.size + 1) s1 d1 := ⟨S3.c0, S3.c1, S3.z0, S3.z1⟩
                  have R4 : Slot (wr.drewN nq).drew w.heap.size 0 0 := ⟨R3.c0, R3.c1, R3.z0, R3.z1⟩
                  have K4 : Keep (fun k => k = w.heap.size + 1) w2 (wr.drewN nq).drew := (K3.drewN nq).drew
                  have cl : (wr.drewN nq).drew.cell? ⟨bs, os + q, none⟩ = some (.int .i64 (dk : Int)) := cl
                  have x0 := S4.c0
                  have x1 := S4.c1
                  have x2 := S4.z0
                  have x3 := S4.z1
                  clear S3 R3 K3 HB3 g3 cp3 ci3 hto
                  generalize wr.drewN nq = W4 at *
                  go_region_with (first | (go_at_call 42; refine (hadd _).mono ?_; rintro e w5 ⟨rfl, hb5⟩; have R4 := R4.below hb5; have S4 := S4.below hb5; have K4 := K4.below hb5; have x0 := S4.c0; have x1 := S4.c1; have x2 := S4.z0; have x3 := S4.z1))
                  all_goals
                    clear hadd x0 x1 x2 x3 cl
                    have S6 := S4.set (s1 + stS dk) (d1 + stD dk)
                    have R6 := R4.keep (set_keep _ (w.heap.size + 1) (s1 + stS dk) (d1 + stD dk)) (by omega)
                    have K6 := K4.trans (set_keep _ (w.heap.size + 1) (s1 + stS dk) (d1 + stD dk)) (fun _ _ h => h)
                    clear S4 R4 K4
                    go_wp2
                    go_roundg (L - (q + 1))
                    case measure => have := HGq.out; omega
                    case rel => exact ⟨q + 1, some dk, by omega, rfl, rfl, by go_num, htf', R6, S6, K6⟩
            · have : q = L := by omega
              subst this
              rw [List.take_of_length_le (by rw [HL.out]; exact Nat.le_refl _), find_dirs hl] at hfo
              clear cp3 ci3 cp ci
              cases o with
              | none =>
                have hnx : wkS W H bl xs (i + 1) = .error 7 := by rw [wkS_next hw]; unfold wk1; rw [if_pos hf, if_neg hi0, hfo]
                have hV := wkV_err hnx (by omega) (show 0 < n by omega)
                obtain ⟨x0, x1, x2, x3⟩ := R3
                go_wp2
                have r0 := setTwo wr w.heap.size 0 0 x0 x1
                exact bodyPost_ret (v := .tuple #[.agg #[.int .i64 0, .int .i64 0], .int .i64 7]) (by simp [results, Tryd.results12, go_sem, r0.1, r0.2]) rfl ⟨by rw [hV], (HB3.setCell (p := ⟨w.heap.size, 0, none⟩) (Nat.le_refl _) _).setCell (p := ⟨w.heap.size, 1, none⟩) (Nat.le_refl _) _⟩
              | some k =>
                have hnx : wkS W H bl xs (i + 1) = .ok (s1 + stS k, d1 + stD k) := by rw [wkS_next hw]; unfold wk1; rw [if_pos hf, if_neg hi0, hfo]
                go_wp2
                go_roundg (n - (i + 1))
                case measure => have := HG.out; omega
                case rel => exact ⟨i + 1, (s1 + stS k, d1 + stD k), by omega, rfl, by go_num, hnx, R3, S3, HB3⟩
      · have hnx : wkS W H bl xs (i + 1) = .error (ffv W H bl (xs i)) := by rw [wkS_next hw]; unfold wk1; rw [if_neg hf]
        have hV := wkV_err hnx (by omega) (show 0 < n by omega)
        have hpos : 0 < ffv W H bl (xs i) := by
          unfold ffv at hf ⊢
          split
          · rename_i h; rw [if_pos h] at hf
            split
            · omega
            · rename_i h2; rw [if_neg h2] at hf; omega
          · omega
        generalize ffv W H bl (xs i) = fv0 at *
        go_wp2_with (go_at_call 15; refine hck.mono ?_; rintro e w1 ⟨rfl, hb1⟩; have R := R.below hb1; have HB := HB.trans (hb1.mono HB.size); obtain ⟨x0, x1, x2, x3⟩ := R)
        have r0 := setTwo w1 w.heap.size 0 0 (Slot.mk x0 x1 x2 x3).c0 (Slot.mk x0 x1 x2 x3).c1
        exact bodyPost_ret (v := .tuple #[.agg #[.int .i64 0, .int .i64 0], .int .i64 fv0]) (by simp [results, Tryd.results12, go_sem, r0.1, r0.2]) rfl ⟨by rw [hV], (HB.setCell (p := ⟨w.heap.size, 0, none⟩) (Nat.le_refl _) _).setCell (p := ⟨w.heap.size, 1, none⟩) (Nat.le_refl _) _⟩
    · have : i = n := by omega
      subst this
      obtain ⟨y0, y1, y2, y3⟩ := R
      obtain ⟨x0, x1, x2, x3⟩ := S
      by_cases h00 : i = 0
      · subst h00
        have hV : wkV W H bl xs 0 = ((0, 0), 7) := rfl
        go_wp2
        have r0 := setTwo wr w.heap.size 0 0 (Slot.mk y0 y1 y2 y3).c0 (Slot.mk y0 y1 y2 y3).c1
        exact bodyPost_ret (v := .tuple #[.agg #[.int .i64 0, .int .i64 0], .int .i64 7]) (by simp [results, Tryd.results12, go_sem, r0.1, r0.2]) rfl ⟨by rw [hV], (HB.setCell (p := ⟨w.heap.size, 0, none⟩) (Nat.le_refl _) _).setCell (p := ⟨w.heap.size, 1, none⟩) (Nat.le_refl _) _⟩
      · have hV := wkV_ok hw (show 0 < i by omega)
        have hib : ((i : Int) == 0) = false := by simp; omega
        have hie : ¬ (i : Int) = 0 := by omega
        go_wp2
        have r0 := setTwo wr w.heap.size s1 d1 (Slot.mk y0 y1 y2 y3).c0 (Slot.mk y0 y1 y2 y3).c1
        exact bodyPost_ret (v := .tuple #[.agg #[.int .i64 s1, .int .i64 d1], .int .i64 0]) (by simp [results, Tryd.results12, go_sem, r0.1, r0.2]) rfl ⟨by rw [hV], (HB.setCell (p := ⟨w.heap.size, 0, none⟩) (Nat.le_refl _) _).setCell (p := ⟨w.heap.size, 1, none⟩) (Nat.le_refl _) _⟩
end Go.Proofs.YtfhicijgpdpfpaaDoor
/-
  A way back to the first cell, and what it costs when it is walked.
-/
namespace Go.Proofs.YtfhicijgpdpfpaaDoor

theorem stepD_edge {W H a b : Int} {bl : Nat → Bool} {k : Nat} (w1 : 1 ≤ W) (e : Edge W H bl a k b) : stepD W H bl a b = some k := by
  obtain ⟨h1, h2, h3, h4⟩ := e
  cases h : stepD W H bl a b with
  | none =>
    unfold stepD at h
    rw [List.find?_range_eq_none] at h
    have := h k h1
    rw [h3, h4] at this
    simp at this
  | some j =>
    unfold stepD at h
    rw [List.find?_range_eq_some] at h
    obtain ⟨g1, g2, _⟩ := h
    simp only [Bool.and_eq_true, beq_iff_eq] at g1
    have := one_dir w1 (by simpa using g2) h1 g1.1 h3 (by rw [g1.2, h4])
    rw [this]

/-- each is one step from the one ahead of it, and costs so much more -/
def Trail (W H : Int) (bl : Nat → Bool) (F : Int → Option (Int × Int)) (xs : Nat → Int) (n : Nat) : Prop :=
  ∀ j, j + 1 < n → ∃ k s d, Edge W H bl (xs j) k (xs (j + 1)) ∧ F (xs j) = some (s, d) ∧ F (xs (j + 1)) = some (s + stS k, d + stD k)

theorem ff_zero {W H : Int} {bl : Nat → Bool} {c : Int} (hi : inB W H c = true) (hb : bl c.toNat = false) : ffv W H bl c = 0 := by
  unfold ffv; rw [hi, hb]; rfl

/-- a trail from the first cell costs, walked, what its last one costs -/
theorem trail_walk {W H o : Int} {bl : Nat → Bool} {F : Int → Option (Int × Int)} {xs : Nat → Int} {n : Nat} (w1 : 1 ≤ W) (B : Best (Edge W H bl) o F) (ho : inB W H o = true) (hbo : bl o.toNat = false) (h0 : xs 0 = o) (ht : Trail W H bl F xs n) :
    ∀ i, i < n → ∃ c, F (xs i) = some c ∧ wkS W H bl xs (i + 1) = .ok c := by
  intro i
  induction i with
  | zero =>
    intro _
    refine ⟨(0, 0), by rw [h0]; exact B.home, ?_⟩
    rw [wkS_next (c := (0, 0)) rfl]
    unfold wk1
    rw [h0, ff_zero ho hbo, if_pos rfl, if_pos rfl]
  | succ i ih =>
    intro hi
    obtain ⟨c, hc, hw⟩ := ih (by omega)
    obtain ⟨k, s, d, he, hF, hG⟩ := ht i hi
    rw [hc] at hF
    cases hF
    refine ⟨_, hG, ?_⟩
    have hwk := B.sound hG
    rw [wkS_next hw]
    unfold wk1
    rw [ff_zero (wk_in w1 ho hwk) (wk_free hbo hwk), if_pos rfl, if_neg (by omega), Nat.add_sub_cancel, stepD_edge w1 he]

/-- .. and has no fault -/
theorem trail_cost {W H o s d : Int} {bl : Nat → Bool} {F : Int → Option (Int × Int)} {xs : Nat → Int} {n : Nat} (w1 : 1 ≤ W) (B : Best (Edge W H bl) o F) (ho : inB W H o = true) (hbo : bl o.toNat = false) (h0 : xs 0 = o) (ht : Trail W H bl F xs n) (hn : 0 < n) (hl : F (xs (n - 1)) = some (s, d)) :
    wkV W H bl xs n = ((s, d), 0) := by
  obtain ⟨c, hc, hw⟩ := trail_walk w1 B ho hbo h0 ht (n - 1) (by omega)
  rw [hl] at hc
  cases hc
  rw [Nat.sub_add_cancel (by omega)] at hw
  exact wkV_ok hw hn
end Go.Proofs.YtfhicijgpdpfpaaDoor
