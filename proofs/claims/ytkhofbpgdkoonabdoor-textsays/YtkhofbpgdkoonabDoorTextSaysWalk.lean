/-
  The walk of 'TextSays': it returns true for every plot and text.
-/
import Derived.Test.YtkhofbpgdkoonabDoorTopTextWalk
import Derived.Test.YtkhofbpgdkoonabDoorRParsed
import Derived.Test.YtkhofbpgdkoonabDoorRPrint
import Derived.Test.YtkhofbpgdkoonabDoorAsGrid
namespace Go.Proofs.YtkhofbpgdkoonabDoor
open Go.RowKit

/-- a free cell and a blocked one -/
theorem print_two : printL (fun c => c == 1) 2 1 = [116, 121, 112, 101, 32, 111, 99, 116, 105, 108, 101, 10, 104, 101, 105, 103, 104, 116, 32, 49, 10, 119, 105, 100, 116, 104, 32, 50, 10, 109, 97, 112, 10, 46, 64, 10] := by
  have e1 : Lib.itoa ((1 : Nat) : Int) = [49] := by
    unfold Lib.itoa
    rw [if_neg (by decide)]
    exact Lib.decDigits_one (by decide)
  have e2 : Lib.itoa ((2 : Nat) : Int) = [50] := by
    unfold Lib.itoa
    rw [if_neg (by decide)]
    exact Lib.decDigits_one (by decide)
  unfold printL headL
  rw [e1, e2]
  rfl
theorem two_parse (w : World) (E : Env w) : Calls Tryd.prog 9 #[.string ⟨#[116, 121, 112, 101, 32, 111, 99, 116, 105, 108, 101, 10, 104, 101, 105, 103, 104, 116, 32, 49, 10, 119, 105, 100, 116, 104, 32, 50, 10, 109, 97, 112, 10, 46, 64, 10]⟩] w (GoodPost w 2 1 ((List.range (1 * 2)).map fun c => c == 1)) := by
  have h := read_print (fun c => c == 1) 2 1 (by decide) (by decide) (by decide) (by decide)
  rw [print_two] at h
  exact parse_goodS h w E

/-- it returned true -/
structure TruePost (w : World) (e : Ending) (w' : World) : Prop where
  ex : e = .returned (.bool true) ∧ Below w.heap.size w w'

set_option maxHeartbeats 1000000 in
set_option maxRecDepth 1000000 in
theorem maps_any (w : World) (E : Env w) : Calls Tryd.prog 5 #[] w (TruePost w) := by
  go_enter Tryd.func5, Tryd.ntmps5
  go_wp2_with (go_at_call 9; refine (two_parse _ E).mono ?_)
  rintro e w1 ⟨B1, p1, q1, rfl, C1, hb1⟩
  obtain ⟨W, H, V, bl, g1, O1, O2⟩ : ∃ W H V bl, GridAt w1 B1 W H V bl ∧ Hid (openB W H bl 0 0 = true) ∧ Hid (openB W H bl 1 0 = false) := ⟨_, _, _, _, C1.1, by show _ = _; decide, by show _ = _; decide⟩
  clear C1
  go_wp2_with (first | (go_at_call 11; refine (same_nil _).mono ?_; rintro e w' ⟨rfl, rfl⟩) | (go_at_call 14; refine (open_v O1.out _ g1).mono ?_))
  rintro e w' ⟨rfl, m1, rfl⟩
  go_wp2_with (go_at_call 14; refine (open_v O2.out _ (g1.drewN _)).mono ?_)
  rintro e w' ⟨rfl, m2, rfl⟩
  go_wp2
  go_ret
  exact ⟨rfl, below_drewN hb1 _⟩
/-- what a text may be -/
def TCase (s : List UInt8) : Prop := (1500 : Int) < (s.length : Int) ∨ (¬ (1500 : Int) < (s.length : Int) ∧ ((∃ n, Hid (readOf s = .bad n) ∧ 0 < n) ∨ ∃ W H cs, Hid (readOf s = .good W H cs)))
theorem tCase (s : List UInt8) : TCase s := by
  unfold TCase
  by_cases h : (1500 : Int) < (s.length : Int)
  · exact .inl h
  · refine .inr ⟨h, ?_⟩
    cases hr : readOf s with
    | bad n => exact .inl ⟨n, rfl, bad_pos hr⟩
    | good W H cs => exact .inr ⟨W, H, cs, rfl⟩
theorem pair_of {w w' : World} {g m W H : Nat} {cs : List Bool} (C : CellsAt w g W H cs) (hb : Below w.heap.size w w') (hg : g < w.heap.size) (D : RCells w' m W H cs) (hm : m < w'.heap.size) (s : StepsAt w') (z : 0 < w'.heap.size) : Pair w' g m W H (blocks cs) (cellsF cs) :=
  ⟨C.1.below hb hg, D.1, Nat.lt_of_lt_of_le hg hb.size, hm, s, z⟩

set_option maxHeartbeats 4000000 in
set_option maxRecDepth 1000000 in
theorem textSays_none (W H : Int) (A : Option Addr) (n cap : Nat) (s : List UInt8) (w : World) (E : Env w) (S : StepsAt w) (h0 : 0 < w.heap.size)
    (hL : ∀ w' : World, Calls Tryd.prog 6 #[.agg #[.int .i64 W, .int .i64 H, .slice A n cap]] w' (NonePost w')) :
    Calls Tryd.prog 3 #[.agg #[.int .i64 W, .int .i64 H, .slice A n cap], .string (str s)] w fun e w' => e = .returned (.bool true) ∧ Below w.heap.size w w' := by
  have hS := tCase s
  unfold TCase at hS
  have hsz := str_size s
  have hb0 : Below w.heap.size w (w.alloc (.cells #[.int .i64 W, .int .i64 H, .slice A n cap] 24)) := (Below.refl _ _).alloc (Nat.le_refl _) _
  go_enter Tryd.func3, Tryd.ntmps3
  go_wp2_with (go_at_call 5; refine (maps_any _ (E.grown hb0)).mono ?_)
  rintro e w1 ⟨rfl, hb1⟩
  have hc : ∀ j, w1.cell? ⟨w.heap.size, j, none⟩ = (w.alloc (.cells #[.int .i64 W, .int .i64 H, .slice A n cap] 24)).cell? ⟨w.heap.size, j, none⟩ := fun j => hb1.cell (p := ⟨w.heap.size, j, none⟩) (by simp)
  have c0 : w1.cell? ⟨w.heap.size, 0, none⟩ = some (.int .i64 W) := by rw [hc, World.cell?_alloc_new]; rfl
  have c1 : w1.cell? ⟨w.heap.size, 1, none⟩ = some (.int .i64 H) := by rw [hc, World.cell?_alloc_new]; rfl
  have c2 : w1.cell? ⟨w.heap.size, 2, none⟩ = some (.slice A n cap) := by rw [hc, World.cell?_alloc_new]; rfl
  have HB1 := hb0.trans (hb1.mono (by simp))
  clear hc
  rcases hS with hS | hS
  · go_wp2
    go_ret
    exact ⟨rfl, HB1⟩
  obtain ⟨hS1, hS⟩ := hS
  go_wp2_with (go_at_call 6; refine (hL _).mono ?_)
  rintro e w2 ⟨rfl, hb2⟩
  have HB := HB1.trans (hb2.mono HB1.size)
  have EW := E.grown HB
  rcases hS with ⟨f, hn, hf⟩ | ⟨Wn, Hn, cs, hn⟩
  · go_wp2_with (go_at_call 9; refine (parse_badE hn.out _ EW).mono ?_)
    rintro e w8 ⟨rfl, hb8⟩
    have HB8 := HB.trans (hb8.mono HB.size)
    go_wp2_with (go_at_call 10; refine (rparse_bad hn.out _).mono ?_)
    rintro e w9 ⟨rfl, hb9⟩
    have HB9 := HB8.trans (hb9.mono HB8.size)
    have hf0 : (0 : Int) < (f : Int) := by omega
    go_wp2_with (go_at_call 11; refine (same_err _ _ hf0).mono ?_; rintro e w' ⟨rfl, rfl⟩)
    go_ret
    exact ⟨rfl, HB9⟩
  · go_wp2_with (go_at_call 9; refine (parse_goodS hn.out _ EW).mono ?_)
    rintro e w8 ⟨B8, p8, q8, rfl, C8, hb8⟩
    have HB8 := HB.trans (hb8.mono HB.size)
    go_wp2_with (go_at_call 10; refine (rparse_good hn.out _).mono ?_)
    rintro e w9 ⟨B9, p9, q9, rfl, C9, hb9⟩
    have HB9 := HB8.trans (hb9.mono HB8.size)
    have hP := pair_of C8 hb9 q8 C9 q9 (S.below HB9 h0) (Nat.lt_of_lt_of_le h0 HB9.size)
    go_wp2_with (go_at_call 12; refine (asGrid_any _ _ _ _ _ _ _ hP).mono ?_)
    rintro e wA ⟨rfl, hbA⟩
    have HBA := HB9.trans (hbA.mono HB9.size)
    go_wp2
    go_ret
    exact ⟨rfl, HBA⟩

set_option maxHeartbeats 4000000 in
set_option maxRecDepth 1000000 in
theorem textSays_ok (W H : Nat) (A : Option Addr) (n cap : Nat) (xs : Nat → Int) (s : List UInt8) (w : World) (E : Env w) (S : StepsAt w) (h0 : 0 < w.heap.size) (hn : ¬ 300 < (n : Int)) (h : sideB W = true) (k : sideB H = true) (hx : OldRow w A n xs) :
    Calls Tryd.prog 3 #[.agg #[.int .i64 W, .int .i64 H, .slice A n cap], .string (str s)] w fun e w' => e = .returned (.bool true) ∧ Below w.heap.size w w' := by
  have hS := tCase s
  unfold TCase at hS
  have hsz := str_size s
  have hb0 : Below w.heap.size w (w.alloc (.cells #[.int .i64 W, .int .i64 H, .slice A n cap] 24)) := (Below.refl _ _).alloc (Nat.le_refl _) _
  go_enter Tryd.func3, Tryd.ntmps3
  go_wp2_with (go_at_call 5; refine (maps_any _ (E.grown hb0)).mono ?_)
  rintro e w1 ⟨rfl, hb1⟩
  have hc : ∀ j, w1.cell? ⟨w.heap.size, j, none⟩ = (w.alloc (.cells #[.int .i64 W, .int .i64 H, .slice A n cap] 24)).cell? ⟨w.heap.size, j, none⟩ := fun j => hb1.cell (p := ⟨w.heap.size, j, none⟩) (by simp)
  have c0 : w1.cell? ⟨w.heap.size, 0, none⟩ = some (.int .i64 W) := by rw [hc, World.cell?_alloc_new]; rfl
  have c1 : w1.cell? ⟨w.heap.size, 1, none⟩ = some (.int .i64 H) := by rw [hc, World.cell?_alloc_new]; rfl
  have c2 : w1.cell? ⟨w.heap.size, 2, none⟩ = some (.slice A n cap) := by rw [hc, World.cell?_alloc_new]; rfl
  have HB1 := hb0.trans (hb1.mono (by simp))
  clear hc
  rcases hS with hS | hS
  · go_wp2
    go_ret
    exact ⟨rfl, HB1⟩
  obtain ⟨hS1, hS⟩ := hS
  go_wp2_with (go_at_call 6; refine (laid_okS _ _ _ _ _ xs _ (by omega) h k (hx.below HB1)).mono ?_)
  rintro e w2 ⟨rfl, hb2, z2, V, bl, hV, hBoth⟩
  have HB2 := HB1.trans (hb2.mono HB1.size)
  have E2 := E.grown HB2
  have g2 := hBoth.ga
  have m2 := hBoth.ra
  have hG2 : w1.heap.size + 1 < w2.heap.size := by omega
  have hM2 : w1.heap.size + 1 + 1 < w2.heap.size := by omega
  clear hBoth hV c0 c1 c2 hx
  go_wp2_with (go_at_call 7; refine (print_e _ E2 g2 hG2).mono ?_)
  rintro e w3 ⟨rfl, hb3⟩
  have HB3 := HB2.trans (hb3.mono HB2.size)
  go_wp2_with (go_at_call 8; refine (rprint_any _ (m2.below hb3 hM2) (Nat.lt_of_lt_of_le hM2 hb3.size)).mono ?_)
  rintro e w4 ⟨rfl, hb4⟩
  have HB := HB3.trans (hb4.mono HB3.size)
  have EW := E.grown HB
  rcases hS with ⟨f, hn, hf⟩ | ⟨Wn, Hn, cs, hn⟩
  · go_wp2_with (go_at_call 9; refine (parse_badE hn.out _ EW).mono ?_)
    rintro e w8 ⟨rfl, hb8⟩
    have HB8 := HB.trans (hb8.mono HB.size)
    go_wp2_with (go_at_call 10; refine (rparse_bad hn.out _).mono ?_)
    rintro e w9 ⟨rfl, hb9⟩
    have HB9 := HB8.trans (hb9.mono HB8.size)
    have hf0 : (0 : Int) < (f : Int) := by omega
    go_wp2_with (go_at_call 11; refine (same_err _ _ hf0).mono ?_; rintro e w' ⟨rfl, rfl⟩)
    go_ret
    exact ⟨rfl, HB9⟩
  · go_wp2_with (go_at_call 9; refine (parse_goodS hn.out _ EW).mono ?_)
    rintro e w8 ⟨B8, p8, q8, rfl, C8, hb8⟩
    have HB8 := HB.trans (hb8.mono HB.size)
    go_wp2_with (go_at_call 10; refine (rparse_good hn.out _).mono ?_)
    rintro e w9 ⟨B9, p9, q9, rfl, C9, hb9⟩
    have HB9 := HB8.trans (hb9.mono HB8.size)
    have hP := pair_of C8 hb9 q8 C9 q9 (S.below HB9 h0) (Nat.lt_of_lt_of_le h0 HB9.size)
    go_wp2_with (go_at_call 12; refine (asGrid_any _ _ _ _ _ _ _ hP).mono ?_)
    rintro e wA ⟨rfl, hbA⟩
    have HBA := HB9.trans (hbA.mono HB9.size)
    go_wp2
    go_ret
    exact ⟨rfl, HBA⟩
end Go.Proofs.YtkhofbpgdkoonabDoor
