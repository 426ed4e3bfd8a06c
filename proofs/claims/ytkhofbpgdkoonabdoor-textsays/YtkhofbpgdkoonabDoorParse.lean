/-
  What a text is read as, by the program.
-/
import Derived.Test.YtkhofbpgdkoonabDoorFill
import Derived.Test.YtkhofbpgdkoonabDoorPrint
namespace Go.Proofs.YtkhofbpgdkoonabDoor
open Go.RowKit

theorem Env.drewN {w : World} (h : Env w) (m : Nat) : Env (w.drewN m) := h.grown (below_drewN (Below.refl _ _) m)
theorem Touch.under {b : Nat} {w w' : World} (h : Touch b w w') : Below b w w' := h.below (Below.refl _ _) (Nat.le_refl _)
theorem Env.touch {b : Nat} {w w' : World} (h : Env w) (t : Touch b w w') (hb : 7 ≤ b) : Env w' := h.below t.under hb

theorem cutL_len {s a b : List UInt8} (h : cutL s = some (a, b)) : a.length + b.length + 1 = s.length := by
  obtain ⟨e, _⟩ := cutL_some h
  rw [e]
  simp
  omega

theorem byte_nl : ∀ (s : List UInt8), match cutL s with | none => Lib.indexByte s 10 = -1 | some p => Lib.indexByte s 10 = (p.1.length : Int)
  | [] => rfl
  | c :: r => by
    have ih := byte_nl r
    unfold cutL
    by_cases hc : c = 10
    · rw [if_pos hc]
      subst hc
      simp [Lib.indexByte]
    · rw [if_neg hc]
      have hb : (c == 10) = false := by simpa using hc
      cases h : cutL r with
      | none =>
        rw [h] at ih
        simp only at ih ⊢
        unfold Lib.indexByte
        rw [hb, ih]
        rfl
      | some p =>
        rw [h] at ih
        simp only at ih ⊢
        unfold Lib.indexByte
        rw [hb, ih]
        have e : ((p.1.length : Int) == -1) = false := by
          rw [beq_eq_false_iff_ne]
          omega
        simp [e]
theorem index_v {s : List UInt8} {i : Int} (hi : Lib.indexByte s 10 = i) (w : World) :
    Calls Tryd.prog 67 #[.string (str s), .string ⟨#[10]⟩] w fun e w' => e = .returned (.int .i64 i) ∧ w' = w := by
  subst hi
  exact Tryd.stringslite_Index_one (str s) 10 w

theorem ext_head (a b : List UInt8) : (str (a ++ 10 :: b)).extract 0 a.length = str a := by
  rw [Lib.extract_eq, str_data]
  simp [str]
theorem ext_tail (a b : List UInt8) (n : Nat) (hn : n = a.length + 1 + b.length) : (str (a ++ 10 :: b)).extract (a.length + 1) n = str b := by
  subst hn
  rw [Lib.extract_eq, str_data]
  rw [show a.length + 1 + b.length - (a.length + 1) = b.length by omega]
  simp [str]

set_option maxHeartbeats 2000000 in
set_option maxRecDepth 100000 in
theorem lcut_some {s a b : List UInt8} (h : cutL s = some (a, b)) (hs : s.length < 4294967281) (w : World) :
    Calls Tryd.prog 61 #[.string (str s), .string ⟨#[10]⟩] w fun e w' => e = .returned (.tuple #[.string (str a), .string (str b), .bool true]) ∧ ∃ n, w' = w.drewN n := by
  obtain ⟨e, _⟩ := cutL_some h
  have hi := byte_nl s
  rw [h] at hi
  simp only at hi
  have HI : Hid (Lib.indexByte s 10 = (a.length : Int)) := hi
  have hsz := str_size s
  have hl := cutL_len h
  have x1 : (str s).extract 0 a.length = str a := by rw [e]; exact ext_head a b
  have x2 : (str s).extract (a.length + 1) s.length = str b := by rw [e]; exact ext_tail a b _ (by simp; omega)
  clear hi h e
  have s1 : (⟨#[10]⟩ : ByteArray).size = 1 := rfl
  have c1 : (0 : Int) ≤ (a.length : Int) := by omega
  have c2 : (a.length : Int) ≤ (s.length : Int) := by omega
  have c3 : (0 : Int) ≤ (a.length : Int) + 1 := by omega
  have c4 : (a.length : Int) + 1 ≤ (s.length : Int) := by omega
  have t1 : ((a.length : Int) + 1).toNat = a.length + 1 := by omega
  go_enter Tryd.func61, Tryd.ntmps61
  go_wp2_with (go_at_call 67; refine (index_v HI.out _).mono ?_; rintro e w' ⟨rfl, rfl⟩)
  go_quiet (fail)
  go_wp2
  go_ret3
  exact ⟨rfl, _, rfl⟩

set_option maxHeartbeats 2000000 in
set_option maxRecDepth 100000 in
theorem lcut_none {s : List UInt8} (h : cutL s = none) (w : World) :
    Calls Tryd.prog 61 #[.string (str s), .string ⟨#[10]⟩] w fun e w' => e = .returned (.tuple #[.string (str s), .string (str []), .bool false]) ∧ ∃ n, w' = w.drewN n := by
  have hi := byte_nl s
  rw [h] at hi
  simp only at hi
  have HI : Hid (Lib.indexByte s 10 = -1) := hi
  clear hi h
  go_enter Tryd.func61, Tryd.ntmps61
  go_wp2_with (go_at_call 67; refine (index_v HI.out _).mono ?_; rintro e w' ⟨rfl, rfl⟩)
  go_ret3
  exact ⟨rfl, 0, rfl⟩

set_option maxHeartbeats 1000000 in
theorem cut_some {s a b : List UInt8} (h : cutL s = some (a, b)) (hs : s.length < 4294967281) (w : World) (_E : Env w) :
    Calls Tryd.prog 52 #[.string (str s), .string ⟨#[10]⟩] w fun e w' => e = .returned (.tuple #[.string (str a), .string (str b), .bool true]) ∧ ∃ n, w' = w.drewN n := by
  have H : Hid (cutL s = some (a, b)) := h
  clear h
  go_enter Tryd.func52, Tryd.ntmps52
  go_wp2_with (go_at_call 61; refine (lcut_some H.out hs _).mono ?_; rintro e w' ⟨rfl, m, rfl⟩)
  go_ret3
  exact ⟨rfl, _, rfl⟩
set_option maxHeartbeats 1000000 in
theorem cut_none {s : List UInt8} (h : cutL s = none) (_hs : s.length < 4294967281) (w : World) (_E : Env w) :
    Calls Tryd.prog 52 #[.string (str s), .string ⟨#[10]⟩] w fun e w' => e = .returned (.tuple #[.string (str s), .string (str []), .bool false]) ∧ ∃ n, w' = w.drewN n := by
  have H : Hid (cutL s = none) := h
  clear h
  go_enter Tryd.func52, Tryd.ntmps52
  go_wp2_with (go_at_call 61; refine (lcut_none H.out _).mono ?_; rintro e w' ⟨rfl, m, rfl⟩)
  go_ret3
  exact ⟨rfl, _, rfl⟩

theorem fillRow_v {b W H : Nat} {cs : List Bool} {i : Int} {row : List UInt8} {r : Option (List Bool)} (hr : rowB row = r) (hi : i = cs.length) (w : World) (g : CellsAt w b W H cs) (hl : cs.length + row.length ≤ W * H) :
    Calls Tryd.prog 55 #[.pointer (some ⟨b, 0, none⟩), .int .i64 i, .string (str row)] w fun e w' => e = .returned (.bool r.isSome) ∧ Touch b w w' ∧ (∀ a, r = some a → CellsAt w' b W H (cs ++ a)) := by
  subst hr hi
  exact fillRow_any row w g hl

theorem toList_str (l : List UInt8) : (str l).toList = l := by
  rw [Lib.toList_data]
  rfl

theorem rowsB_step {W k : Nat} {rest row after : List UInt8} {x : List Bool} (hcut : cutL rest = some (row, after)) (hw : row.length = W) (hro : rowB row = some x) : rowsB W (k + 1) rest = (rowsB W k after).map (fun l => x ++ l) := by
  simp only [rowsB, hcut, hw, if_true, hro]
  cases rowsB W k after with
  | none => rfl
  | some l => rfl

set_option maxHeartbeats 2000000 in
set_option maxRecDepth 100000 in
theorem fill_any {b W H : Nat} (rows : List UInt8) (w : World) (E : Env w) (hb7 : 7 ≤ b) (g : CellsAt w b W H []) (hl : rows.length ≤ 1000) :
    Calls Tryd.prog 29 #[.pointer (some ⟨b, 0, none⟩), .string (str rows)] w fun e w' => e = .returned (.bool (rowsB W H rows).isSome) ∧ Touch b w w' ∧ (∀ a, rowsB W H rows = some a → CellsAt w' b W H a) := by
  have w1 := g.1.w1
  have w2 := g.1.w2
  have h1 := g.1.h1
  have h2 := g.1.h2
  go_enter Tryd.func29, Tryd.ntmps29
  go_wp2_with (go_at_call 20; refine (size_any _ g.1).mono ?_; rintro e w' ⟨rfl, m, rfl⟩)
  go_loopw [1, 17] (fun r i wr => ∃ (y : Nat) (a : List Bool) (rest : List UInt8), y ≤ H ∧ i = .int .i64 y ∧ r = .string (str rest) ∧ Touch b w wr ∧ CellsAt wr b W H a ∧ a.length = y * W ∧ rowsB W H rows = (rowsB W (H - y) rest).map (fun l => a ++ l) ∧ rest.length ≤ 1000)
    (fun _ i _ => H - (intOf i).toNat)
  case atStart => exact ⟨0, [], rows, by omega, rfl, rfl, (Touch.refl b w).drewN m, g.drewN m, by simp, by simp, hl⟩
  case round =>
    obtain ⟨y, a, rest, hy, rfl, rfl, hT, hC, hal, hrs, hrl⟩ := hrel
    have Er := E.touch hT hb7
    by_cases hlt : y < H
    · obtain ⟨k, hk⟩ : ∃ k, H - y = k + 1 := ⟨H - y - 1, by omega⟩
      have hk2 : H - (y + 1) = k := by omega
      rw [hk] at hrs
      have y1 : (y : Int) < (H : Int) := by omega
      have hyw : y * W + W ≤ W * H := by
        have := Nat.mul_le_mul_left W (show y + 1 ≤ H by omega)
        rw [Nat.mul_add, Nat.mul_comm W y] at this
        omega
      have hi : (y : Int) * (W : Int) = (a.length : Nat) := by rw [hal, Int.natCast_mul]
      have HI : Hid ((y : Int) * (W : Int) = (a.length : Nat)) := hi
      have j1 : (0 : Int) ≤ (y : Int) * W ∧ (y : Int) * W ≤ 256 := by
        have := Nat.mul_le_mul (show y ≤ 16 by omega) (show W ≤ 16 by omega)
        rw [← Int.natCast_mul]
        omega
      clear hi
      cases hcut : cutL rest with
      | none =>
        have hbad : rowsB W H rows = none := by rw [hrs]; unfold rowsB; rw [hcut]; rfl
        clear hrs
        go_wp2_with (go_at_call 52; refine (cut_none hcut (by omega) _ Er).mono ?_; rintro e w' ⟨rfl, m2, rfl⟩)
        go_ret
        exact ⟨by rw [hbad]; rfl, hT.drewN m2, fun a' h' => by rw [hbad] at h'; cases h'⟩
      | some p =>
        obtain ⟨row, after⟩ := p
        have hcl := cutL_len hcut
        have hsz := str_size row
        by_cases hw : row.length = W
        · cases hro : rowB row with
          | none =>
            have hbad : rowsB W H rows = none := by rw [hrs]; unfold rowsB; rw [hcut]; simp [hw, hro]
            clear hrs
            go_wp2_with (first | (go_at_call 52; refine (cut_some hcut (by omega) _ Er).mono ?_; rintro e w' ⟨rfl, m2, rfl⟩) | (go_at_call 55; refine (fillRow_v hro HI.out _ (hC.drewN m2) (by rw [hal, hw]; exact hyw)).mono ?_; rintro e w3 ⟨rfl, T3, C3⟩))
            go_ret
            exact ⟨by rw [hbad]; rfl, (hT.drewN m2).trans T3, fun a' h' => by rw [hbad] at h'; cases h'⟩
          | some x =>
            have hxl := rowB_len hro
            have hnx : rowsB W H rows = (rowsB W k after).map (fun l => (a ++ x) ++ l) := by
              rw [hrs, rowsB_step hcut hw hro]
              cases rowsB W k after with
              | none => rfl
              | some l => simp
            have HX : Hid (rowsB W H rows = (rowsB W k after).map (fun l => (a ++ x) ++ l)) := hnx
            clear hrs hnx
            go_wp2_with (first | (go_at_call 52; refine (cut_some hcut (by omega) _ Er).mono ?_; rintro e w' ⟨rfl, m2, rfl⟩) | (go_at_call 55; refine (fillRow_v hro HI.out _ (hC.drewN m2) (by rw [hal, hw]; exact hyw)).mono ?_; rintro e w3 ⟨rfl, T3, C3⟩))
            go_roundw
            case rel => exact ⟨y + 1, a ++ x, after, by omega, by go_num, rfl, (hT.drewN m2).trans T3, C3 x rfl, by rw [List.length_append, hal, hxl, hw, Nat.succ_mul], by rw [hk2]; exact HX.out, by omega⟩
            case measure => simp [intOf]; omega
        · have hbad : rowsB W H rows = none := by rw [hrs]; unfold rowsB; rw [hcut]; simp [hw]
          clear hrs
          have hne : ((row.length : Int) == (W : Int)) = false := by rw [beq_eq_false_iff_ne]; omega
          go_wp2_with (go_at_call 52; refine (cut_some hcut (by omega) _ Er).mono ?_; rintro e w' ⟨rfl, m2, rfl⟩)
          go_ret
          exact ⟨by rw [hbad]; rfl, hT.drewN m2, fun a' h' => by rw [hbad] at h'; cases h'⟩
    · have hyl : y = H := by omega
      subst hyl
      rw [Nat.sub_self] at hrs
      have hts := toList_str rest
      cases rest with
      | nil =>
        have hok : rowsB W y rows = some a := by rw [hrs]; simp [rowsB]
        clear hrs
        go_wp2
        go_ret
        exact ⟨by rw [hok]; rfl, hT, fun a' h' => by rw [hok] at h'; cases h'; exact hC⟩
      | cons c r =>
        have hbad : rowsB W y rows = none := by rw [hrs]; simp [rowsB]
        clear hrs
        go_wp2
        go_ret
        exact ⟨by rw [hbad]; rfl, hT, fun a' h' => by rw [hbad] at h'; cases h'⟩
end Go.Proofs.YtkhofbpgdkoonabDoor
