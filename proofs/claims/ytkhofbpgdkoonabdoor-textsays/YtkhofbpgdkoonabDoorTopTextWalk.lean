/-
  The walk of 'TopText': it returns true for every plot and text.
-/
import Derived.Test.YtkhofbpgdkoonabDoorParsed
import Derived.Test.YtkhofbpgdkoonabDoorDirs
namespace Go.Proofs.YtkhofbpgdkoonabDoor
open Go.RowKit

theorem free_v {b : Nat} {W H V : Int} {bl : Nat → Bool} {c : Nat} {o : Bool} (ho : (!bl c) = o) (w : World) (g : GridAt w b W H V bl) (hr : inB W H c = true) :
    Calls Tryd.prog 36 #[.pointer (some ⟨b, 0, none⟩), .int .i64 c] w fun e w' => e = .returned (.tuple #[.bool o, .nilIface]) ∧ ∃ m, w' = w.drewN m := ho ▸ free_in c w g hr

set_option maxHeartbeats 2000000 in
set_option maxRecDepth 100000 in
theorem alike_any {a b W H : Nat} {V V' : Int} {bl bl' : Nat → Bool} (w : World) (ga : GridAt w a W H V bl) (gb : GridAt w b W H V' bl') (hs : ∀ c, c < W * H → bl c = bl' c) :
    Calls Tryd.prog 13 #[.pointer (some ⟨a, 0, none⟩), .pointer (some ⟨b, 0, none⟩)] w fun e w' => e = .returned (.bool true) ∧ ∃ m, w' = w.drewN m := by
  have w1 := ga.w1
  have w2 := ga.w2
  have h1 := ga.h1
  have h2 := ga.h2
  have k2 : W * H ≤ 16 * 16 := Nat.mul_le_mul (by omega) (by omega)
  obtain ⟨N, hN⟩ : ∃ N, W * H = N := ⟨_, rfl⟩
  have hN2 : (W : Int) * (H : Int) = (N : Int) := by rw [← hN, Int.natCast_mul]
  have HN : Hid (W * H = N) := hN
  rw [hN] at k2
  have HS : Hid (∀ c, c < W * H → bl c = bl' c) := hs
  clear hN hs
  go_enter Tryd.func13, Tryd.ntmps13
  go_wp2_with (go_at_call 20; refine (size_any _ ga).mono ?_)
  rintro e w' ⟨rfl, m1, rfl⟩
  go_wp2_with (go_at_call 20; refine (size_any _ (gb.drewN m1)).mono ?_)
  rintro e w' ⟨rfl, m2, rfl⟩
  go_wp2
  go_loopw [9] (fun i wr => ∃ j : Nat, j ≤ N ∧ i = .int .i64 j ∧ ∃ m, wr = w.drewN m)
    (fun i _ => N - (intOf i).toNat)
  case atStart => exact ⟨0, by omega, rfl, _, rfl⟩
  case round =>
    obtain ⟨j, hj, rfl, m, rfl⟩ := hrel
    by_cases hlt : j < N
    · have j1 : (j : Int) < (N : Int) := by omega
      have hin : inB W H j = true := inB_nat (by rw [HN.out]; exact hlt)
      have hbl := HS.out j (by rw [HN.out]; exact hlt)
      obtain ⟨o, ho⟩ : ∃ o, (!bl' j) = o := ⟨_, rfl⟩
      have HO : Hid ((!bl j) = o) := by show (!bl j) = o; rw [hbl]; exact ho
      have HO2 : Hid ((!bl' j) = o) := ho
      clear hbl ho
      go_wp2_with (go_at_call 36; refine (free_v HO.out _ (ga.drewN _) hin).mono ?_)
      rintro e w' ⟨rfl, m3, rfl⟩
      go_wp2_with (go_at_call 36; refine (free_v HO2.out _ (gb.drewN _) hin).mono ?_)
      rintro e w' ⟨rfl, m4, rfl⟩
      go_wp2
      go_roundw
      case rel => exact ⟨j + 1, by omega, by go_num, _, rfl⟩
      case measure => simp [intOf]; omega
    · have : j = N := by omega
      subst this
      go_wp2
      go_ret
      exact ⟨rfl, _, rfl⟩
/-- one free cell -/
theorem print_one : printL (fun _ => false) 1 1 = [116, 121, 112, 101, 32, 111, 99, 116, 105, 108, 101, 10, 104, 101, 105, 103, 104, 116, 32, 49, 10, 119, 105, 100, 116, 104, 32, 49, 10, 109, 97, 112, 10, 46, 10] := by
  have e : Lib.itoa ((1 : Nat) : Int) = [49] := by
    unfold Lib.itoa
    rw [if_neg (by decide)]
    exact Lib.decDigits_one (by decide)
  unfold printL headL
  rw [e]
  rfl
/-- a text was read as this grid -/
structure GoodPost (w : World) (W H : Nat) (cs : List Bool) (e : Ending) (w' : World) : Prop where
  ex : ∃ B, w.heap.size ≤ B ∧ B < w'.heap.size ∧ e = .returned (.tuple #[.pointer (some ⟨B, 0, none⟩), .nilIface]) ∧ CellsAt w' B W H cs ∧ Below w.heap.size w w'
/-- a text was not read -/
structure BadPost (w : World) (n : Nat) (e : Ending) (w' : World) : Prop where
  ex : e = .returned (.tuple #[.pointer none, .iface 67 (.int .i64 n)]) ∧ Below w.heap.size w w'
/-- this was printed -/
structure PrintPost (w : World) (s : ByteArray) (e : Ending) (w' : World) : Prop where
  ex : e = .returned (.string s) ∧ Below w.heap.size w w'
theorem parse_goodS {s : List UInt8} {W H : Nat} {cs : List Bool} (h : readOf s = .good W H cs) (w : World) (E : Env w) : Calls Tryd.prog 9 #[.string (str s)] w (GoodPost w W H cs) :=
  (parse_good h w E).mono fun _ _ h => ⟨h⟩
theorem one_parse (w : World) (E : Env w) : Calls Tryd.prog 9 #[.string ⟨#[116, 121, 112, 101, 32, 111, 99, 116, 105, 108, 101, 10, 104, 101, 105, 103, 104, 116, 32, 49, 10, 119, 105, 100, 116, 104, 32, 49, 10, 109, 97, 112, 10, 46, 10]⟩] w (GoodPost w 1 1 ((List.range (1 * 1)).map fun _ => false)) := by
  have h := read_print (fun _ => false) 1 1 (by decide) (by decide) (by decide) (by decide)
  rw [print_one] at h
  exact parse_goodS h w E
theorem print_e {b W H : Nat} {V : Int} {bl : Nat → Bool} (w : World) (E : Env w) (g : GridAt w b W H V bl) (hbw : b < w.heap.size) :
    Calls Tryd.prog 7 #[.pointer (some ⟨b, 0, none⟩)] w (PrintPost w (str (printL bl W H))) := (print_any w E g hbw).mono fun _ _ h => ⟨h⟩
theorem parse_badE {s : List UInt8} {n : Nat} (h : readOf s = .bad n) (w : World) (E : Env w) : Calls Tryd.prog 9 #[.string (str s)] w (BadPost w n) := (parse_bad h w E).mono fun _ _ h => ⟨h⟩
theorem same_cells {W H : Nat} (bl : Nat → Bool) : ∀ c, c < W * H → cellsF ((List.range (H * W)).map bl) c = bl c := by
  intro c hc
  unfold cellsF
  rw [List.getD_eq_getElem?_getD, List.getElem?_map, List.getElem?_range (by rw [Nat.mul_comm]; exact hc)]
  rfl

/-- no plot was laid -/
structure NonePost (w : World) (e : Ending) (w' : World) : Prop where
  ex : e = .returned (.tuple #[.pointer none, .pointer none, .bool false]) ∧ Below w.heap.size w w'
/-- a plot was laid -/
structure LaidPost (w : World) (W H : Int) (e : Ending) (w' : World) : Prop where
  ex : e = .returned (.tuple #[.pointer (some ⟨w.heap.size + 1, 0, none⟩), .pointer (some ⟨w.heap.size + 1 + 1, 0, none⟩), .bool true]) ∧ Below w.heap.size w w' ∧ w'.heap.size = w.heap.size + 3 ∧ ∃ V bl, V ≤ 300 ∧ Both w' (w.heap.size + 1) (w.heap.size + 1 + 1) W H V bl
theorem laid_okS (W H : Int) (A : Option Addr) (n cap : Nat) (xs : Nat → Int) (w : World) (hn : ¬ 300 < (n : Int)) (h : sideB W = true) (k : sideB H = true) (hx : OldRow w A n xs) :
    Calls Tryd.prog 6 #[.agg #[.int .i64 W, .int .i64 H, .slice A n cap]] w (LaidPost w W H) := (laid_ok W H A n cap xs w hn h k hx).mono fun _ _ h => ⟨h⟩

/-- what a text may be read as -/
def SCase (s : List UInt8) : Prop := (1200 : Int) < (s.length : Int) ∨ (¬ (1200 : Int) < (s.length : Int) ∧ ∃ n, Hid (readOf s = .bad n)) ∨
  (¬ (1200 : Int) < (s.length : Int) ∧ ∃ W H cs, Hid (readOf s = .good W H cs) ∧ 1 ≤ W ∧ W ≤ 16 ∧ 1 ≤ H ∧ H ≤ 16 ∧ ∀ bl, Hid (readOf (printL bl W H) = .good W H ((List.range (H * W)).map bl)))
theorem sCase (s : List UInt8) : SCase s := by
  unfold SCase
  by_cases h : (1200 : Int) < (s.length : Int)
  · exact .inl h
  · refine .inr ?_
    cases hr : readOf s with
    | bad n => exact .inl ⟨h, n, rfl⟩
    | good W H cs =>
      obtain ⟨a, b, c, d, _⟩ := read_good hr
      exact .inr ⟨h, W, H, cs, rfl, a, b, c, d, fun bl => read_print bl W H a b c d⟩

set_option maxHeartbeats 4000000 in
set_option maxRecDepth 1000000 in
theorem topText_none (W H : Int) (A : Option Addr) (n cap : Nat) (s : List UInt8) (w : World) (E : Env w)
    (hL : ∀ w' : World, Calls Tryd.prog 6 #[.agg #[.int .i64 W, .int .i64 H, .slice A n cap]] w' (NonePost w')) :
    Calls Tryd.prog 4 #[.agg #[.int .i64 W, .int .i64 H, .slice A n cap], .string (str s)] w fun e w' => e = .returned (.bool true) ∧ Below w.heap.size w w' := by
  have hS := sCase s
  unfold SCase at hS
  have hsz := str_size s
  have hb0 : Below w.heap.size w (w.alloc (.cells #[.int .i64 W, .int .i64 H, .slice A n cap] 24)) := (Below.refl _ _).alloc (Nat.le_refl _) _
  go_enter Tryd.func4, Tryd.ntmps4
  go_wp2_with (go_at_call 9; refine (one_parse _ (E.grown hb0)).mono ?_)
  rintro e w1 ⟨B1, p1, q1, rfl, C1, hb1⟩
  have hc : ∀ j, w1.cell? ⟨w.heap.size, j, none⟩ = (w.alloc (.cells #[.int .i64 W, .int .i64 H, .slice A n cap] 24)).cell? ⟨w.heap.size, j, none⟩ := fun j => hb1.cell (p := ⟨w.heap.size, j, none⟩) (by simp)
  have c0 : w1.cell? ⟨w.heap.size, 0, none⟩ = some (.int .i64 W) := by rw [hc, World.cell?_alloc_new]; rfl
  have c1 : w1.cell? ⟨w.heap.size, 1, none⟩ = some (.int .i64 H) := by rw [hc, World.cell?_alloc_new]; rfl
  have c2 : w1.cell? ⟨w.heap.size, 2, none⟩ = some (.slice A n cap) := by rw [hc, World.cell?_alloc_new]; rfl
  have HB1 := hb0.trans (hb1.mono (by simp))
  clear hc C1
  go_wp2_with (go_at_call 6; refine (hL _).mono ?_)
  rintro e w2 ⟨rfl, hb2⟩
  have HB := HB1.trans (hb2.mono HB1.size)
  have EW := E.grown HB
  rcases hS with hS | hS | hS
  · go_wp2
    go_ret
    exact ⟨rfl, HB⟩
  · obtain ⟨hS1, n, hn⟩ := hS
    go_wp2_with (go_at_call 9; refine (parse_badE hn.out _ EW).mono ?_)
    rintro e w8 ⟨rfl, hb8⟩
    have HB8 := HB.trans (hb8.mono HB.size)
    go_wp2
    go_ret
    exact ⟨rfl, HB8⟩
  · obtain ⟨hS1, Wn, Hn, cs, hn, hc1, hc2, hc3, hc4, hc5⟩ := hS
    go_wp2_with (go_at_call 9; refine (parse_goodS hn.out _ EW).mono ?_)
    rintro e w8 ⟨B8, p8, q8, rfl, C8, hb8⟩
    have HB8 := HB.trans (hb8.mono HB.size)
    have E8 := EW.grown hb8
    go_wp2_with (go_at_call 7; refine (print_e _ E8 C8.1 q8).mono ?_)
    rintro e w9 ⟨rfl, hb9⟩
    have HB9 := HB8.trans (hb9.mono HB8.size)
    have E9 := E8.grown hb9
    go_wp2_with (go_at_call 9; refine (parse_goodS (hc5 (cellsF cs)).out _ E9).mono ?_)
    rintro e wA ⟨BA, pA, qA, rfl, CA, hbA⟩
    have HBA := HB9.trans (hbA.mono HB9.size)
    have gY := (C8.1.below hb9 q8).below hbA (Nat.lt_of_lt_of_le q8 hb9.size)
    go_wp2_with (go_at_call 13; refine (alike_any _ CA.1 gY (same_cells _)).mono ?_; rintro e w' ⟨rfl, mB, rfl⟩)
    go_ret
    exact ⟨rfl, below_drewN HBA _⟩

set_option maxHeartbeats 4000000 in
set_option maxRecDepth 1000000 in
theorem topText_ok (W H : Nat) (A : Option Addr) (n cap : Nat) (xs : Nat → Int) (s : List UInt8) (w : World) (E : Env w) (hn : ¬ 300 < (n : Int)) (h : sideB W = true) (k : sideB H = true) (hx : OldRow w A n xs) :
    Calls Tryd.prog 4 #[.agg #[.int .i64 W, .int .i64 H, .slice A n cap], .string (str s)] w fun e w' => e = .returned (.bool true) ∧ Below w.heap.size w w' := by
  have hS := sCase s
  unfold SCase at hS
  have hsz := str_size s
  have hb0 : Below w.heap.size w (w.alloc (.cells #[.int .i64 W, .int .i64 H, .slice A n cap] 24)) := (Below.refl _ _).alloc (Nat.le_refl _) _
  go_enter Tryd.func4, Tryd.ntmps4
  go_wp2_with (go_at_call 9; refine (one_parse _ (E.grown hb0)).mono ?_)
  rintro e w1 ⟨B1, p1, q1, rfl, C1, hb1⟩
  have hc : ∀ j, w1.cell? ⟨w.heap.size, j, none⟩ = (w.alloc (.cells #[.int .i64 W, .int .i64 H, .slice A n cap] 24)).cell? ⟨w.heap.size, j, none⟩ := fun j => hb1.cell (p := ⟨w.heap.size, j, none⟩) (by simp)
  have c0 : w1.cell? ⟨w.heap.size, 0, none⟩ = some (.int .i64 W) := by rw [hc, World.cell?_alloc_new]; rfl
  have c1 : w1.cell? ⟨w.heap.size, 1, none⟩ = some (.int .i64 H) := by rw [hc, World.cell?_alloc_new]; rfl
  have c2 : w1.cell? ⟨w.heap.size, 2, none⟩ = some (.slice A n cap) := by rw [hc, World.cell?_alloc_new]; rfl
  have HB1 := hb0.trans (hb1.mono (by simp))
  clear hc C1
  go_wp2_with (go_at_call 6; refine (laid_okS _ _ _ _ _ xs _ (by omega) h k (hx.below HB1)).mono ?_)
  rintro e w2 ⟨rfl, hb2, z2, V, bl, hV, hBoth⟩
  have HB2 := HB1.trans (hb2.mono HB1.size)
  have E2 := E.grown HB2
  have g2 := hBoth.ga
  have hG2 : w1.heap.size + 1 < w2.heap.size := by omega
  have a1 : 1 ≤ (W : Int) ∧ (W : Int) ≤ 16 := of_decide_eq_true h
  have a2 : 1 ≤ (H : Int) ∧ (H : Int) ≤ 16 := of_decide_eq_true k
  have hrp : Hid (readOf (printL bl W H) = .good W H ((List.range (H * W)).map bl)) := read_print bl W H (by omega) (by omega) (by omega) (by omega)
  clear hBoth hV a1 a2 c0 c1 c2 hx
  go_wp2_with (go_at_call 7; refine (print_e _ E2 g2 hG2).mono ?_)
  rintro e w3 ⟨rfl, hb3⟩
  have HB3 := HB2.trans (hb3.mono HB2.size)
  have E3 := E2.grown hb3
  go_wp2_with (go_at_call 9; refine (parse_goodS hrp.out _ E3).mono ?_)
  rintro e w4 ⟨B4, p4, q4, rfl, C4, hb4⟩
  have HB4 := HB3.trans (hb4.mono HB3.size)
  have E4 := E3.grown hb4
  have g4 := (g2.below hb3 hG2).below hb4 (Nat.lt_of_lt_of_le hG2 hb3.size)
  go_wp2_with (go_at_call 13; refine (alike_any _ C4.1 g4 (same_cells _)).mono ?_)
  rintro e w' ⟨rfl, m5, rfl⟩
  have HB := below_drewN HB4 m5
  have EW := E4.drewN m5
  rcases hS with hS | hS | hS
  · go_wp2
    go_ret
    exact ⟨rfl, HB⟩
  · obtain ⟨hS1, n, hn⟩ := hS
    go_wp2_with (go_at_call 9; refine (parse_badE hn.out _ EW).mono ?_)
    rintro e w8 ⟨rfl, hb8⟩
    have HB8 := HB.trans (hb8.mono HB.size)
    go_wp2
    go_ret
    exact ⟨rfl, HB8⟩
  · obtain ⟨hS1, Wn, Hn, cs, hn, hc1, hc2, hc3, hc4, hc5⟩ := hS
    go_wp2_with (go_at_call 9; refine (parse_goodS hn.out _ EW).mono ?_)
    rintro e w8 ⟨B8, p8, q8, rfl, C8, hb8⟩
    have HB8 := HB.trans (hb8.mono HB.size)
    have E8 := EW.grown hb8
    go_wp2_with (go_at_call 7; refine (print_e _ E8 C8.1 q8).mono ?_)
    rintro e w9 ⟨rfl, hb9⟩
    have HB9 := HB8.trans (hb9.mono HB8.size)
    have E9 := E8.grown hb9
    go_wp2_with (go_at_call 9; refine (parse_goodS (hc5 (cellsF cs)).out _ E9).mono ?_)
    rintro e wA ⟨BA, pA, qA, rfl, CA, hbA⟩
    have HBA := HB9.trans (hbA.mono HB9.size)
    have gY := (C8.1.below hb9 q8).below hbA (Nat.lt_of_lt_of_le q8 hb9.size)
    go_wp2_with (go_at_call 13; refine (alike_any _ CA.1 gY (same_cells _)).mono ?_; rintro e w' ⟨rfl, mB, rfl⟩)
    go_ret
    exact ⟨rfl, below_drewN HBA _⟩

end Go.Proofs.YtkhofbpgdkoonabDoor
