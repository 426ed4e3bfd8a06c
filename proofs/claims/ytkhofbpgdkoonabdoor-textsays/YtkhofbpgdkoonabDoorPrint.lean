/-
  What is printed of a grid.
-/
import Derived.Test.YtkhofbpgdkoonabDoorHead
import Derived.Test.YtkhofbpgdkoonabDoorRef
import Derived.Deep.LoopGhost
import Derived.Deep.Light
namespace Go.Proofs.YtkhofbpgdkoonabDoor
open Go.RowKit

theorem byteOf_any (b : Bool) (w : World) :
    Calls Tryd.prog 24 #[.bool b] w fun e w' => e = .returned (.int .u8 (byteL (!b)).toNat) ∧ w' = w := by
  cases b
  · go_enter Tryd.func24, Tryd.ntmps24
    go_wp2
    go_ret
    exact ⟨rfl, rfl⟩
  · go_enter Tryd.func24, Tryd.ntmps24
    go_wp2
    go_ret
    exact ⟨rfl, rfl⟩

/-- a builder holds these bytes -/
def Holds (w : World) (b : Nat) (l : List UInt8) : Prop := Lib.IsBuilder 58 5 b b (Lib.byteCells l) w

theorem Holds.drewN {w : World} {b : Nat} {l : List UInt8} (h : Holds w b l) (m : Nat) : Holds (w.drewN m) b l := h
theorem Holds.lt {w : World} {b : Nat} {l : List UInt8} (h : Holds w b l) : b < w.heap.size := by
  rcases h with h | h
  · exact h.lt
  · exact h.lt

theorem put_string {b : Nat} {l : List UInt8} (s : List UInt8) (w : World) (h : Holds w b l) (hl : l.length + s.length ≤ 1000000) :
    Calls Tryd.prog 22 #[.pointer (some ⟨b, 0, none⟩), .string (str s)] w fun e w' => e = .returned (.tuple #[.int .i64 s.length, .nilIface]) ∧ Holds w' b (l ++ s) ∧ Below b w w' :=
  (writeString b b (Lib.byteCells l) (str s) w h (by rw [Lib.byteCells_length, str_size]; exact hl) (Nat.le_of_lt h.lt)).mono fun e w' ⟨he, h1, h2⟩ =>
    ⟨by rw [he, str_size], by unfold Holds; rw [Lib.byteCells_append]; exact h1, h2⟩

theorem put_byte {b : Nat} {l : List UInt8} (c : UInt8) (w : World) (h : Holds w b l) (hl : l.length + 1 ≤ 1000000) :
    Calls Tryd.prog 23 #[.pointer (some ⟨b, 0, none⟩), .int .u8 c.toNat] w fun e w' => e = .returned .nilIface ∧ Holds w' b (l ++ [c]) ∧ Below b w w' :=
  (writeByte b b (Lib.byteCells l) c.toNat w h (by rw [Lib.byteCells_length]; exact hl) (Nat.le_of_lt h.lt)).mono fun e w' ⟨he, h1, h2⟩ =>
    ⟨he, by unfold Holds; rw [Lib.byteCells_append]; exact h1, h2⟩
theorem put_nl {b : Nat} {l : List UInt8} (w : World) (h : Holds w b l) (hl : l.length + 1 ≤ 1000000) :
    Calls Tryd.prog 23 #[.pointer (some ⟨b, 0, none⟩), .int .u8 10] w fun e w' => e = .returned .nilIface ∧ Holds w' b (l ++ [10]) ∧ Below b w w' := put_byte 10 w h hl

theorem take_string {b : Nat} {l : List UInt8} (w : World) (h : Holds w b l) :
    Calls Tryd.prog 25 #[.pointer (some ⟨b, 0, none⟩)] w fun e w' => e = .returned (.string (str l)) ∧ Below b w w' :=
  Tryd.Builder_String_any b b l w h (Nat.le_of_lt h.lt)

theorem holds_new (w w' : World) (hb : Below (w.heap.size + 1) (w.alloc (.cells #[.pointer none, .slice none 0 0] 58)) w') : Holds w' w.heap.size [] := by
  refine .inl ⟨Nat.le_refl _, .slice none 0 0, ?_, ?_, by simp [Value.ownBlock]⟩
  · rw [hb.block _ (Nat.lt_succ_self _)]
    exact heap_alloc_new w _
  · refine ⟨by simp [Lib.byteCells], .inl ⟨rfl, rfl⟩⟩

/-- the first j of four lines, with their ends -/
def upTo (a b c d : List UInt8) (j : Nat) : List UInt8 := ([a, b, c, d].take j).flatMap fun l => l ++ [10]

theorem idx60 (v0 v1 v2 v3 : Value) (w : World) : (Instr.index 60 (.agg #[v0, v1, v2, v3]) (.int .i64 0)).run Tryd.prog w = .ok v0 w ∧ (Instr.index 60 (.agg #[v0, v1, v2, v3]) (.int .i64 1)).run Tryd.prog w = .ok v1 w ∧ (Instr.index 60 (.agg #[v0, v1, v2, v3]) (.int .i64 2)).run Tryd.prog w = .ok v2 w ∧ (Instr.index 60 (.agg #[v0, v1, v2, v3]) (.int .i64 3)).run Tryd.prog w = .ok v3 w :=
  ⟨by kernel_rfl, by kernel_rfl, by kernel_rfl, by kernel_rfl⟩

theorem headV_str (w h : Int) : headV w h = #[.string (str typeW), .string (str (heightW ++ Lib.itoa h)), .string (str (widthW ++ Lib.itoa w)), .string (str mapW)] := by
  unfold headV
  rw [str_append, str_append]
theorem headL_upTo (w h : Int) : headL w h = upTo typeW (heightW ++ Lib.itoa h) (widthW ++ Lib.itoa w) mapW 4 := by
  unfold headL upTo
  simp

theorem headOf_v {W H : Int} {a b c d : List UInt8} (ha : typeW = a) (hb : heightW ++ Lib.itoa H = b) (hc : widthW ++ Lib.itoa W = c) (hd : mapW = d) (a0 : -9223372036854775808 ≤ W) (a1 : W ≤ 9223372036854775807) (b0 : -9223372036854775808 ≤ H) (b1 : H ≤ 9223372036854775807) (w : World) (E : Env w) :
    Calls Tryd.prog 21 #[.int .i64 W, .int .i64 H] w fun e w' => e = .returned (.agg #[.string (str a), .string (str b), .string (str c), .string (str d)]) ∧ Below w.heap.size w w' := by
  subst ha hb hc hd
  exact (headOf_any W H a0 a1 b0 b1 w E).mono fun e w' ⟨he, h⟩ => ⟨by rw [he, headV_str], h⟩

theorem upTo_len {a b c d : List UInt8} {n : Nat} (ha : a.length ≤ n) (hb : b.length ≤ n) (hc : c.length ≤ n) (hd : d.length ≤ n) (j : Nat) : (upTo a b c d j).length ≤ 4 * n + 4 := by
  unfold upTo
  match j with
  | 0 => simp
  | 1 => simp; omega
  | 2 => simp; omega
  | 3 => simp; omega
  | j + 4 => simp; omega

theorem rowsL_len (bl : Nat → Bool) (W y : Nat) (hw : W ≤ 16) (hy : y ≤ 16) : (rowsL bl W y).length ≤ 272 := by
  rw [rowsL_from, rowsFrom_len]
  have : y * (W + 1) ≤ 16 * 17 := Nat.mul_le_mul hy (by omega)
  omega
theorem rowL_snoc (bl : Nat → Bool) (c x : Nat) : rowL bl c (x + 1) = rowL bl c x ++ [byteL (bl (c + x))] := by
  unfold rowL
  rw [List.range_succ, List.map_append]
  rfl
theorem open_nat {W H : Nat} {bl : Nat → Bool} {x y : Nat} (hx : x < W) (hy : y < H) : openB W H bl x y = !bl (y * W + x) := by
  unfold openB
  rw [show atB W H x y = true from decide_eq_true (by omega), Bool.true_and]
  congr 2
theorem byteOf_v {b : Bool} {c : UInt8} (hc : byteL (!b) = c) (w : World) :
    Calls Tryd.prog 24 #[.bool b] w fun e w' => e = .returned (.int .u8 c.toNat) ∧ w' = w := hc ▸ byteOf_any b w

set_option maxHeartbeats 2000000 in
set_option maxRecDepth 100000 in
theorem print_any {b : Nat} {W H : Nat} {V : Int} {bl : Nat → Bool} (w : World) (E : Env w) (g : GridAt w b W H V bl) (hbw : b < w.heap.size) :
    Calls Tryd.prog 7 #[.pointer (some ⟨b, 0, none⟩)] w fun e w' => e = .returned (.string (str (printL bl W H))) ∧ Below w.heap.size w w' := by
  have w1 := g.w1
  have w2 := g.w2
  have h1 := g.h1
  have h2 := g.h2
  have i1 := itoa_len W (by omega) (by omega)
  have i2 := itoa_len H (by omega) (by omega)
  unfold printL
  rw [headL_upTo]
  obtain ⟨la, ea⟩ : ∃ l, typeW = l := ⟨_, rfl⟩
  obtain ⟨lb, eb⟩ : ∃ l, heightW ++ Lib.itoa H = l := ⟨_, rfl⟩
  obtain ⟨lc, ec⟩ : ∃ l, widthW ++ Lib.itoa W = l := ⟨_, rfl⟩
  obtain ⟨ld, ed⟩ : ∃ l, mapW = l := ⟨_, rfl⟩
  have na : la.length ≤ 20 := by rw [← ea]; decide
  have nb : lb.length ≤ 20 := by rw [← eb, List.length_append]; have : heightW.length = 7 := rfl; omega
  have nc : lc.length ≤ 20 := by rw [← ec, List.length_append]; have : widthW.length = 6 := rfl; omega
  have nd : ld.length ≤ 20 := by rw [← ed]; decide
  rw [ea, eb, ec, ed]
  have HA : Hid (typeW = la) := ea
  have HB : Hid (heightW ++ Lib.itoa H = lb) := eb
  have HC : Hid (widthW ++ Lib.itoa W = lc) := ec
  have HD : Hid (mapW = ld) := ed
  clear ea eb ec ed i1 i2
  have hul := upTo_len na nb nc nd
  go_enter Tryd.func7, Tryd.ntmps7
  go_wp2_with (go_at_call 20; refine (size_any _ g).mono ?_; rintro e w' ⟨rfl, m, rfl⟩)
  have hba : Below w.heap.size w ((w.drewN m).alloc (.cells #[.pointer none, .slice none 0 0] 58)) := (below_drewN (Below.refl _ _) m).alloc (Nat.le_refl _) _
  go_wp2_with (go_at_call 21; refine (headOf_v HA.out HB.out HC.out HD.out (by omega) (by omega) (by omega) (by omega) _ (E.grown hba)).mono ?_)
  rintro e wa ⟨rfl, hb1⟩
  have sz1 := hb1.size
  simp only [World.size_alloc, World.heap_drewN] at sz1
  have hH : Holds wa w.heap.size [] := holds_new (w.drewN m) wa (by simpa using hb1)
  have hwa : Below w.heap.size w wa := hba.trans (hb1.mono (by simp))
  clear hb1 hba E
  go_wp2
  go_loopw [18] (fun i wr => ∃ j : Nat, j ≤ 4 ∧ i = .int .i64 j ∧ Holds wr w.heap.size (upTo la lb lc ld j) ∧ Below w.heap.size w wr)
    (fun i _ => 4 - (intOf i).toNat)
  case atStart => exact ⟨0, by omega, rfl, hH, hwa⟩
  case round =>
    obtain ⟨j, hj, rfl, hh, hw⟩ := hrel
    have hl := hul j
    obtain ⟨x0, x1, x2, x3⟩ : _ ∧ _ ∧ _ ∧ _ := ⟨fun w => (idx60 (.string (str la)) (.string (str lb)) (.string (str lc)) (.string (str ld)) w).1, fun w => (idx60 (.string (str la)) (.string (str lb)) (.string (str lc)) (.string (str ld)) w).2.1, fun w => (idx60 (.string (str la)) (.string (str lb)) (.string (str lc)) (.string (str ld)) w).2.2.1, fun w => (idx60 (.string (str la)) (.string (str lb)) (.string (str lc)) (.string (str ld)) w).2.2.2⟩
    by_cases hlt : j < 4
    · have hcs : j = 0 ∨ j = 1 ∨ j = 2 ∨ j = 3 := by omega
      rcases hcs with rfl | rfl | rfl | rfl
      · go_wp2_with (first | (go_at_call 22; refine (put_string la _ hh (by omega)).mono ?_; rintro e w3 ⟨rfl, h3, b3⟩) | (go_at_call 23; refine (put_nl _ h3 (by simp; omega)).mono ?_; rintro e w4 ⟨rfl, h4, b4⟩))
        go_roundw
        case rel => exact ⟨1, by omega, by go_num, by simpa [upTo] using h4, hw.trans (b3.trans b4)⟩
        case measure => simp [intOf]
      · go_wp2_with (first | (go_at_call 22; refine (put_string lb _ hh (by omega)).mono ?_; rintro e w3 ⟨rfl, h3, b3⟩) | (go_at_call 23; refine (put_nl _ h3 (by simp; omega)).mono ?_; rintro e w4 ⟨rfl, h4, b4⟩))
        go_roundw
        case rel => exact ⟨2, by omega, by go_num, by simpa [upTo] using h4, hw.trans (b3.trans b4)⟩
        case measure => simp [intOf]
      · go_wp2_with (first | (go_at_call 22; refine (put_string lc _ hh (by omega)).mono ?_; rintro e w3 ⟨rfl, h3, b3⟩) | (go_at_call 23; refine (put_nl _ h3 (by simp; omega)).mono ?_; rintro e w4 ⟨rfl, h4, b4⟩))
        go_roundw
        case rel => exact ⟨3, by omega, by go_num, by simpa [upTo] using h4, hw.trans (b3.trans b4)⟩
        case measure => simp [intOf]
      · go_wp2_with (first | (go_at_call 22; refine (put_string ld _ hh (by omega)).mono ?_; rintro e w3 ⟨rfl, h3, b3⟩) | (go_at_call 23; refine (put_nl _ h3 (by simp; omega)).mono ?_; rintro e w4 ⟨rfl, h4, b4⟩))
        go_roundw
        case rel => exact ⟨4, by omega, by go_num, by simpa [upTo] using h4, hw.trans (b3.trans b4)⟩
        case measure => simp [intOf]
    · have : j = 4 := by omega
      subst this
      clear x0 x1 x2 x3 hul hH hwa
      obtain ⟨U, hU⟩ : ∃ U, upTo la lb lc ld 4 = U := ⟨_, rfl⟩
      rw [hU] at hh hl
      have HU : Hid (upTo la lb lc ld 4 = U) := hU
      clear hU
      clear na nb nc nd HA HB HC HD
      rw [show ((4 : Nat) : Int) = 4 from rfl]
      go_wp2
      go_loopw [26] (fun i wr => ∃ y : Nat, y ≤ H ∧ i = .int .i64 y ∧ Holds wr w.heap.size (U ++ rowsL bl W y) ∧ Below w.heap.size w wr)
        (fun i _ => H - (intOf i).toNat)
      case atStart => exact ⟨0, by omega, rfl, by simpa [rowsL] using hh, hw⟩
      case round =>
        obtain ⟨y, hy, rfl, hh2, hw2⟩ := hrel
        have hR := rowsL_len bl W y (by omega) (by omega)
        by_cases hylt : y < H
        · have y1 : (y : Int) < (H : Int) := by omega
          go_wp2
          go_loopw [30] (fun i wr => ∃ x : Nat, x ≤ W ∧ i = .int .i64 x ∧ Holds wr w.heap.size (U ++ rowsL bl W y ++ rowL bl (y * W) x) ∧ Below w.heap.size w wr)
            (fun i _ => W - (intOf i).toNat)
          case atStart => exact ⟨0, by omega, rfl, by simpa [rowL] using hh2, hw2⟩
          case round =>
            obtain ⟨x, hx, rfl, hh3, hw3⟩ := hrel
            have hQ := rowL_len bl (y * W) x
            have hlen : (U ++ rowsL bl W y ++ rowL bl (y * W) x).length + 1 ≤ 1000000 := by
              rw [List.length_append, List.length_append, hQ]
              omega
            by_cases hxlt : x < W
            · have x1 : (x : Int) < (W : Int) := by omega
              have ho := open_nat (bl := bl) hxlt hylt
              have gr := g.below hw3 hbw
              obtain ⟨c, hc⟩ : ∃ c, byteL (bl (y * W + x)) = c := ⟨_, rfl⟩
              have hby : byteL (!(!bl (y * W + x))) = c := by rw [Bool.not_not, hc]
              have hrs : U ++ rowsL bl W y ++ rowL bl (y * W) (x + 1) = U ++ rowsL bl W y ++ rowL bl (y * W) x ++ [c] := by rw [rowL_snoc, hc, ← List.append_assoc]
              have HRS : Hid (U ++ rowsL bl W y ++ rowL bl (y * W) (x + 1) = U ++ rowsL bl W y ++ rowL bl (y * W) x ++ [c]) := hrs
              clear hrs hc
              generalize (!bl (y * W + x)) = ob at ho hby
              go_wp2_with (first | (go_at_call 14; refine (open_v ho _ gr).mono ?_; rintro e w' ⟨rfl, m3, rfl⟩) | (go_at_call 24; refine (byteOf_v hby _).mono ?_; rintro e w' ⟨rfl, rfl⟩) | (go_at_call 23; refine (put_byte c _ (hh3.drewN m3) hlen).mono ?_; rintro e w4 ⟨rfl, h4, b4⟩))
              go_roundw
              case rel => exact ⟨x + 1, by omega, by go_num, by rw [HRS.out]; exact h4, (below_drewN hw3 _).trans b4⟩
              case measure => simp [intOf]; omega
            · have : x = W := by omega
              subst this
              go_wp2_with (go_at_call 23; refine (put_nl _ hh3 hlen).mono ?_; rintro e w4 ⟨rfl, h4, b4⟩)
              go_roundw
              case rel => exact ⟨y + 1, by omega, by go_num, by simpa [rowsL] using h4, hw3.trans b4⟩
              case measure => simp [intOf]; omega
        · have : y = H := by omega
          subst this
          go_wp2_with (go_at_call 25; refine (take_string _ hh2).mono ?_; rintro e w4 ⟨rfl, b4⟩)
          go_ret
          exact ⟨by rw [HU.out]; rfl, hw2.trans b4⟩
end Go.Proofs.YtkhofbpgdkoonabDoor
