/-
  What a walk costs: the program's.
-/
import Derived.Test.YtfhicijgpdpfpaaDoorWalkF
import Derived.Deep.RegionWith
namespace Go.Proofs.YtfhicijgpdpfpaaDoor
open Go.RowKit

/-- the direction from a cell to another one -/
def stepD (W H : Int) (bl : Nat → Bool) (a b : Int) : Option Nat := (List.range 8).find? (fun d => mayB W H bl (a % W) (a / W) d && (a + (stepY d * W + stepX d) == b))
/-- one look at a walk -/
def wk1 (W H : Int) (bl : Nat → Bool) (xs : Nat → Int) (i : Nat) (c : Int × Int) : Except Int (Int × Int) :=
  if ffv W H bl (xs i) = 0 then (if i = 0 then .ok c else match stepD W H bl (xs (i - 1)) (xs i) with | none => .error 7 | some k => .ok (c.1 + stS k, c.2 + stD k)) else .error (ffv W H bl (xs i))
/-- what the first ones of a walk cost, or what is wrong -/
def wkS (W H : Int) (bl : Nat → Bool) (xs : Nat → Int) : Nat → Except Int (Int × Int)
  | 0 => .ok (0, 0)
  | i + 1 => match wkS W H bl xs i with | .error e => .error e | .ok c => wk1 W H bl xs i c
/-- what a walk costs, and its fault -/
def wkV (W H : Int) (bl : Nat → Bool) (xs : Nat → Int) (n : Nat) : (Int × Int) × Int := if n = 0 then ((0, 0), 7) else match wkS W H bl xs n with | .error e => ((0, 0), e) | .ok c => (c, 0)

theorem wkS_stuck {W H : Int} {bl : Nat → Bool} {xs : Nat → Int} {i : Nat} {e : Int} (h : wkS W H bl xs i = .error e) : ∀ n, i ≤ n → wkS W H bl xs n = Except.error e := by
  intro n hn
  induction n with
  | zero => have : i = 0 := by omega
            subst this; exact h
  | succ n ih =>
    by_cases q : i = n + 1
    · subst q; exact h
    · rw [wkS, ih (by omega)]
theorem wkV_err {W H : Int} {bl : Nat → Bool} {xs : Nat → Int} {i n : Nat} {e : Int} (h : wkS W H bl xs i = .error e) (hn : i ≤ n) (h0 : 0 < n) : wkV W H bl xs n = ((0, 0), e) := by
  unfold wkV; rw [if_neg (by omega), wkS_stuck h n hn]
theorem wkV_ok {W H : Int} {bl : Nat → Bool} {xs : Nat → Int} {n : Nat} {c : Int × Int} (h : wkS W H bl xs n = .ok c) (h0 : 0 < n) : wkV W H bl xs n = (c, 0) := by
  unfold wkV; rw [if_neg (by omega), h]
theorem wkS_next {W H : Int} {bl : Nat → Bool} {xs : Nat → Int} {i : Nat} {c : Int × Int} (h : wkS W H bl xs i = .ok c) : wkS W H bl xs (i + 1) = wk1 W H bl xs i c := by
  rw [wkS, h]
theorem wkS_back {W H : Int} {bl : Nat → Bool} {xs : Nat → Int} {i : Nat} {c : Int × Int} (h : wkS W H bl xs (i + 1) = .ok c) : ∃ c0, wkS W H bl xs i = .ok c0 ∧ wk1 W H bl xs i c0 = .ok c := by
  rw [wkS] at h
  cases hw : wkS W H bl xs i with
  | error e => rw [hw] at h; cases h
  | ok c0 => rw [hw] at h; exact ⟨c0, rfl, h⟩
theorem wkS_bd {W H : Int} {bl : Nat → Bool} {xs : Nat → Int} : ∀ {i : Nat} {c : Int × Int}, wkS W H bl xs i = .ok c → 0 ≤ c.1 ∧ c.1 ≤ i ∧ 0 ≤ c.2 ∧ c.2 ≤ i := by
  intro i
  induction i with
  | zero => intro c h; rw [wkS] at h; cases h; decide
  | succ i ih =>
    intro c h
    obtain ⟨c0, h1, h2⟩ := wkS_back h
    have := ih h1
    unfold wk1 at h2
    by_cases a1 : ffv W H bl (xs i) = 0
    · rw [if_pos a1] at h2
      by_cases a2 : i = 0
      · rw [if_pos a2] at h2; cases h2; omega
      · rw [if_neg a2] at h2
        cases hs : stepD W H bl (xs (i - 1)) (xs i) with
        | none => rw [hs] at h2; cases h2
        | some k =>
          rw [hs] at h2; cases h2
          have := st_bd k
          simp only
          omega
    · rw [if_neg a1] at h2; cases h2
/-- all but the last one are cells -/
theorem wkS_in {W H : Int} {bl : Nat → Bool} {xs : Nat → Int} {i : Nat} {c : Int × Int} (h : wkS W H bl xs (i + 1) = .ok c) : inB W H (xs i) = true := by
  obtain ⟨c0, h1, h2⟩ := wkS_back h
  unfold wk1 at h2
  by_cases a1 : ffv W H bl (xs i) = 0
  · unfold ffv at a1
    by_cases a2 : inB W H (xs i) = true
    · exact a2
    · rw [if_neg a2] at a1; omega
  · rw [if_neg a1] at h2; cases h2
/-- what 'between' tells is the direction -/
theorem found_stepD {W H r t : Int} {bl : Nat → Bool} {ok : Bool} {f : Nat} (h : Found (fun d => mayB W H bl ((f : Int) % W) ((f : Int) / W) d && ((f : Int) + (stepY d * W + stepX d) == t)) r ok) :
    (ok = true ∧ ∃ k : Nat, k < 8 ∧ r = k ∧ stepD W H bl f t = some k) ∨ (ok = false ∧ stepD W H bl f t = none) := by
  rcases h with ⟨h1, d, hd, hr, hq, hno⟩ | ⟨h1, _, hno⟩
  · left
    refine ⟨h1, d, hd, hr, ?_⟩
    unfold stepD
    rw [List.find?_range_eq_some]
    exact ⟨hq, by simpa using hd, fun e he => by have := hno e he; simp only at this; rw [this]; rfl⟩
  · right
    refine ⟨h1, ?_⟩
    unfold stepD
    rw [List.find?_range_eq_none]
    intro e he
    have := hno e he
    simp only at this
    rw [this]; rfl

set_option maxHeartbeats 2000000 in
set_option maxRecDepth 1000000 in
theorem walk_none {b cap : Nat} {A : Option Addr} (w : World) :
    Calls Tryd.prog 11 #[.pointer (some ⟨b, 0, none⟩), .slice A 0 cap] w fun e w' => e = .returned (.tuple #[.agg #[.int .i64 0, .int .i64 0], errV 7]) ∧ Below w.heap.size w w' := by
  go_enter Tryd.func11, Tryd.ntmps11
  go_wp2
  exact bodyPost_ret (v := .tuple #[.agg #[.int .i64 0, .int .i64 0], .iface 78 (.int .i64 7)]) (by simp [results, Tryd.results11, go_sem]) rfl ⟨rfl, (Below.refl _ _).alloc (Nat.le_refl _) _⟩

/-- a cost in a block of one's own -/
structure Slot (w : World) (B : Nat) (s d : Int) : Prop where
  c0 : w.cell? ⟨B, 0, none⟩ = some (.int .i64 s)
  c1 : w.cell? ⟨B, 1, none⟩ = some (.int .i64 d)
  z0 : w.frozen? ⟨B, 0, none⟩ = false
  z1 : w.frozen? ⟨B, 1, none⟩ = false
theorem Slot.keep {F : Nat → Prop} {w w' : World} {B : Nat} {s d : Int} (h : Slot w B s d) (K : Keep F w w') (hn : ¬ F B) : Slot w' B s d := by
  have hB := World.block_lt_of_cell? w _ h.c0
  exact ⟨K.cellOf h.c0 hn, K.cellOf h.c1 hn, (K.frozen (p := ⟨B, 0, none⟩) hB hn).trans h.z0, (K.frozen (p := ⟨B, 1, none⟩) hB hn).trans h.z1⟩
theorem Slot.below {w w' : World} {B : Nat} {s d : Int} (h : Slot w B s d) (hb : Below w.heap.size w w') : Slot w' B s d := h.keep (F := fun _ => False) (Keep.of_below hb) id
theorem Slot.new (w : World) (s d : Int) : Slot (w.alloc (.cells #[.int .i64 s, .int .i64 d] 31)) w.heap.size s d :=
  ⟨World.cell?_alloc_at #[.int .i64 s, .int .i64 d] 31 w.heap.size 0 rfl, World.cell?_alloc_at #[.int .i64 s, .int .i64 d] 31 w.heap.size 1 rfl, free_alloc w #[.int .i64 s, .int .i64 d] 31 w.heap.size (Nat.le_refl _) 0, free_alloc w #[.int .i64 s, .int .i64 d] 31 w.heap.size (Nat.le_refl _) 1⟩

theorem setTwo (w : World) (B : Nat) (s d : Int) {x y : Value} (h0 : w.cell? ⟨B, 0, none⟩ = some x) (h1 : w.cell? ⟨B, 1, none⟩ = some y) :
    ((w.setCell ⟨B, 0, none⟩ (.int .i64 s)).setCell ⟨B, 1, none⟩ (.int .i64 d)).cell? ⟨B, 0, none⟩ = some (.int .i64 s) ∧ ((w.setCell ⟨B, 0, none⟩ (.int .i64 s)).setCell ⟨B, 1, none⟩ (.int .i64 d)).cell? ⟨B, 1, none⟩ = some (.int .i64 d) := by
  constructor
  · rw [World.cell?_setCell_other _ _ _ _ (by intro e; cases e)]; exact World.cell?_setCell_same _ _ _ h0
  · refine World.cell?_setCell_same _ _ _ (u := y) ?_
    rw [World.cell?_setCell_other _ _ _ _ (by intro e; cases e)]; exact h1

theorem Slot.set {w : World} {B : Nat} {x y : Int} (S : Slot w B x y) (s d : Int) : Slot ((w.setCell ⟨B, 0, none⟩ (.int .i64 s)).setCell ⟨B, 1, none⟩ (.int .i64 d)) B s d := by
  have r := setTwo w B s d S.c0 S.c1
  exact ⟨r.1, r.2, by simpa using S.z0, by simpa using S.z1⟩
theorem set_keep (w : World) (B : Nat) (s d : Int) : Keep (fun k => k = B) w ((w.setCell ⟨B, 0, none⟩ (.int .i64 s)).setCell ⟨B, 1, none⟩ (.int .i64 d)) :=
  ((Keep.refl (fun k => k = B) w).setCell (p := ⟨B, 0, none⟩) (fun _ => rfl) _).setCell (p := ⟨B, 1, none⟩) (fun _ => rfl) _

set_option maxHeartbeats 4000000 in
set_option maxRecDepth 1000000 in
theorem walk_some {b n cap : Nat} {A : Option Addr} {W H V : Int} {bl : Nat → Bool} {xs : Nat → Int} (w : World) (g : GridAt w b W H V bl) (s : StepsAt w) (hb : b < w.heap.size) (hx : OldRow w A n xs) (hn : n ≤ 300) (h0 : 0 < n) :
    Calls Tryd.prog 11 #[.pointer (some ⟨b, 0, none⟩), .slice A n cap] w fun e w' => e = .returned (.tuple #[.agg #[.int .i64 (wkV W H bl xs n).1.1, .int .i64 (wkV W H bl xs n).1.2], errV (wkV W H bl xs n).2]) ∧ Below w.heap.size w w' := by
  have l0 : ¬ (n : Int) = 0 := by omega
  have l0b : ((n : Int) == 0) = false := by simpa using l0
  have R0 : Slot ((w.alloc (.cells #[.int .i64 0, .int .i64 0] 31)).alloc (.cells #[.int .i64 0, .int .i64 0] 31)) w.heap.size 0 0 := (Slot.new w 0 0).below ((Below.refl _ _).alloc (Nat.le_refl _) _)
  have S0 : Slot ((w.alloc (.cells #[.int .i64 0, .int .i64 0] 31)).alloc (.cells #[.int .i64 0, .int .i64 0] 31)) (w.heap.size + 1) 0 0 := by
    have := Slot.new (w.alloc (.cells #[.int .i64 0, .int .i64 0] 31)) 0 0
    have e : (w.alloc (.cells #[.int .i64 0, .int .i64 0] 31)).heap.size = w.heap.size + 1 := by simp
    rw [e] at this
    exact this
  have HB0 : Below w.heap.size w ((w.alloc (.cells #[.int .i64 0, .int .i64 0] 31)).alloc (.cells #[.int .i64 0, .int .i64 0] 31)) := ((Below.refl _ _).alloc (Nat.le_refl _) _).alloc (by simp) _
  go_enter Tryd.func11, Tryd.ntmps11
  go_wp2
  go_loopg [19] n (fun gk iv wr => ∃ (i : Nat) (c : Int × Int), i ≤ n ∧ gk = n - i ∧ iv = .int .i64 i ∧ wkS W H bl xs i = .ok c ∧ Slot wr w.heap.size 0 0 ∧ Slot wr (w.heap.size + 1) c.1 c.2 ∧ Below w.heap.size w wr)
  case atStart => exact ⟨0, (0, 0), by omega, rfl, rfl, rfl, R0, S0, HB0⟩
  case round =>
    clear R0 S0 HB0
    obtain ⟨i, ⟨s1, d1⟩, hi, hgk, rfl, hw, R, S, HB⟩ := hrel
    have HG : Hid (gk = n - i) := hgk
    clear hgk
    have gr := g.below HB hb
    have sr := s.below HB s.pos
    have hbd := wkS_bd hw
    simp only at hbd S
    by_cases hlt : i < n
    · have hlt' : (i : Int) < (n : Int) := by omega
      obtain ⟨ba, oa, rfl, hba, hcell⟩ := hx i hlt
      have ci : wr.cell? ⟨ba, oa + i, none⟩ = some (.int .i64 (xs i)) := (HB.cell (p := ⟨ba, oa + i, none⟩) hba).trans hcell
      clear hcell
      have hck := check_any (xs i) wr gr
      by_cases hf : ffv W H bl (xs i) = 0
      · have ev : errV (ffv W H bl (xs i)) = .nilIface := by rw [hf]; rfl
        rw [ev] at hck
        by_cases hi0 : i = 0
        · subst hi0
          have ci' : wr.cell? ⟨ba, oa, none⟩ = some (.int .i64 (xs 0)) := ci
          have hnx : wkS W H bl xs (0 + 1) = .ok (s1, d1) := by rw [wkS_next hw]; unfold wk1; rw [if_pos hf, if_pos rfl]
          go_wp2_with (go_at_call 45; refine hck.mono ?_; rintro e w1 ⟨rfl, hb1⟩)
          go_roundg (n - (0 + 1))
          case measure => have := HG.out; omega
          case rel => exact ⟨0 + 1, (s1, d1), by omega, rfl, by go_num, hnx, R.below hb1, S.below hb1, HB.trans (hb1.mono HB.size)⟩
        · have hib : ((i : Int) == 0) = false := by simp; omega
          have hie : ¬ (i : Int) = 0 := by omega
          obtain ⟨c0, hw0, hw1⟩ := wkS_back (i := i - 1) (by rw [Nat.sub_add_cancel (by omega)]; exact hw)
          have hin : inB W H (xs (i - 1)) = true := wkS_in (i := i - 1) (by rw [Nat.sub_add_cancel (by omega)]; exact hw)
          have hc2 : 0 ≤ xs (i - 1) ∧ xs (i - 1) < W * H := of_decide_eq_true hin
          obtain ⟨ba', oa', e, hba', hcell'⟩ := hx (i - 1) (by omega)
          cases e
          have cp : wr.cell? ⟨ba, oa + (i - 1), none⟩ = some (.int .i64 (xs (i - 1))) := (HB.cell (p := ⟨ba, oa + (i - 1), none⟩) hba).trans hcell'
          have hti : ((i : Int) - 1).toNat = i - 1 := by omega
          have j1 : (0 : Int) ≤ (i : Int) - 1 := by omega
          have j2 : (i : Int) - 1 < (n : Int) := by omega
          obtain ⟨pn, hpn⟩ : ∃ pn : Nat, xs (i - 1) = pn := ⟨(xs (i - 1)).toNat, by omega⟩
          rw [hpn] at cp hin
          clear hcell' hw0 hw1 hc2
          go_wp2_with (go_at_call 45; refine hck.mono ?_; rintro e w1 ⟨rfl, hb1⟩; have cp := (hb1.cell (World.block_lt_of_cell? _ _ cp)).trans cp)
          refine (between_any pn (xs i) rfl rfl w1 (gr.below hb1 (Nat.lt_of_lt_of_le hb HB.size)) (sr.below hb1 sr.pos) (Nat.lt_of_lt_of_le (Nat.lt_of_lt_of_le hb HB.size) hb1.size) hin).mono ?_
          rintro e w2 ⟨r, ok, rfl, hFo, hb2⟩
          have hb12 : Below wr.heap.size wr w2 := hb1.trans (hb2.mono hb1.size)
          have R2 := R.below hb12
          have S2 := S.below hb12
          have HB2 := HB.trans (hb12.mono HB.size)
          have sr2 := s.below HB2 s.pos
          clear R S hb1 hb2 hck
          rcases found_stepD hFo with ⟨rfl, k, hk8, rfl, hsd⟩ | ⟨rfl, hsd⟩
          · have hnx : wkS W H bl xs (i + 1) = .ok (s1 + stS k, d1 + stD k) := by rw [wkS_next hw]; unfold wk1; rw [if_pos hf, if_neg hi0, hpn, hsd]
            have hst := st_bd k
            have hok1 : okC s1 d1 := by unfold okC; omega
            have hok2 : okC (stS k) (stD k) := by unfold okC; omega
            have hadd := fun w => add_any s1 d1 (stS k) (stD k) w hok1 hok2
            have hS3 : Below w.heap.size w w2.drew := ⟨HB2.os, HB2.tape, HB2.output, HB2.size, HB2.block⟩
            have R3 : Slot w2.drew w.heap.size 0 0 := ⟨R2.c0, R2.c1, R2.z0, R2.z1⟩
            have S3 : Slot w2.drew (w.heap.size + 1) s1 d1 := ⟨S2.c0, S2.c1, S2.z0, S2.z1⟩
            have sr3 : StepsAt w2.drew := sr2
            have x0 := S3.c0
            have x1 := S3.c1
            have x2 := S3.z0
            have x3 := S3.z1
            clear S2 R2 HB2 sr2 hFo hsd hw ci cp
            generalize s1 + stS k = A1 at *
            generalize d1 + stD k = A2 at *
            go_wp2
            go_region_with (first | (go_at_call 47; refine (stepCost_any k _ sr3 hk8).mono ?_; rintro e w4 ⟨rfl, hb4⟩; have R3 := R3.below hb4; have S3 := S3.below hb4; have hS3 := hS3.trans (hb4.mono hS3.size); have x0 := S3.c0; have x1 := S3.c1; have x2 := S3.z0; have x3 := S3.z1) | (go_at_call 27; refine (hadd _).mono ?_; rintro e w5 ⟨rfl, hb5⟩; have R3 := R3.below hb5; have S3 := S3.below hb5; have hS3 := hS3.trans (hb5.mono hS3.size); have x0 := S3.c0; have x1 := S3.c1; have x2 := S3.z0; have x3 := S3.z1))
            all_goals
              clear hadd x0 x1 x2 x3
              have S6 := S3.set A1 A2
              have R6 := R3.keep (set_keep _ (w.heap.size + 1) A1 A2) (by omega)
              have HB6 := (hS3.setCell (p := ⟨w.heap.size + 1, 0, none⟩) (Nat.le_succ _) (.int .i64 A1)).setCell (p := ⟨w.heap.size + 1, 1, none⟩) (Nat.le_succ _) (.int .i64 A2)
              clear S3 R3 hS3
              go_wp2
              go_roundg (n - (i + 1))
              case measure => have := HG.out; omega
              case rel => exact ⟨i + 1, (A1, A2), by omega, rfl, by go_num, hnx, R6, S6, HB6⟩
          · have hnx : wkS W H bl xs (i + 1) = .error 7 := by rw [wkS_next hw]; unfold wk1; rw [if_pos hf, if_neg hi0, hpn, hsd]
            have hV := wkV_err hnx (by omega) h0
            obtain ⟨x0, x1, x2, x3⟩ := R2
            go_wp2
            have r0 := setTwo w2 w.heap.size 0 0 (Slot.mk x0 x1 x2 x3).c0 (Slot.mk x0 x1 x2 x3).c1
            exact bodyPost_ret (v := .tuple #[.agg #[.int .i64 0, .int .i64 0], .iface 78 (.int .i64 7)]) (by simp [results, Tryd.results11, go_sem, r0.1, r0.2]) rfl ⟨by rw [hV]; rfl, (HB2.setCell (p := ⟨w.heap.size, 0, none⟩) (Nat.le_refl _) _).setCell (p := ⟨w.heap.size, 1, none⟩) (Nat.le_refl _) _⟩
      · have hnx : wkS W H bl xs (i + 1) = .error (ffv W H bl (xs i)) := by rw [wkS_next hw]; unfold wk1; rw [if_neg hf]
        have hV := wkV_err hnx (by omega) h0
        have ev : errV (ffv W H bl (xs i)) = .iface 78 (.int .i64 (ffv W H bl (xs i))) := by unfold errV; rw [if_neg hf]
        rw [ev] at hck
        generalize ffv W H bl (xs i) = fv0 at *
        go_wp2_with (go_at_call 45; refine hck.mono ?_; rintro e w1 ⟨rfl, hb1⟩; have R := R.below hb1; have HB := HB.trans (hb1.mono HB.size); obtain ⟨x0, x1, x2, x3⟩ := R)
        have r0 := setTwo w1 w.heap.size 0 0 (Slot.mk x0 x1 x2 x3).c0 (Slot.mk x0 x1 x2 x3).c1
        exact bodyPost_ret (v := .tuple #[.agg #[.int .i64 0, .int .i64 0], .iface 78 (.int .i64 fv0)]) (by simp [results, Tryd.results11, go_sem, r0.1, r0.2]) rfl ⟨by rw [hV, ev], (HB.setCell (p := ⟨w.heap.size, 0, none⟩) (Nat.le_refl _) _).setCell (p := ⟨w.heap.size, 1, none⟩) (Nat.le_refl _) _⟩
    · have : i = n := by omega
      subst this
      have hV := wkV_ok hw h0
      obtain ⟨y0, y1, y2, y3⟩ := R
      obtain ⟨x0, x1, x2, x3⟩ := S
      go_wp2
      have r0 := setTwo wr w.heap.size s1 d1 (Slot.mk y0 y1 y2 y3).c0 (Slot.mk y0 y1 y2 y3).c1
      exact bodyPost_ret (v := .tuple #[.agg #[.int .i64 s1, .int .i64 d1], .nilIface]) (by simp [results, Tryd.results11, go_sem, r0.1, r0.2]) rfl ⟨by rw [hV]; rfl, (HB.setCell (p := ⟨w.heap.size, 0, none⟩) (Nat.le_refl _) _).setCell (p := ⟨w.heap.size, 1, none⟩) (Nat.le_refl _) _⟩
end Go.Proofs.YtfhicijgpdpfpaaDoor
