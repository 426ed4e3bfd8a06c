/-
  What filling a grid with rows does.
-/
import Derived.Test.YtkhofbpgdkoonabDoorHead
import Derived.Test.YtkhofbpgdkoonabDoorRef
import Derived.Deep.LoopGhost
import Derived.Deep.Light
namespace Go.Proofs.YtkhofbpgdkoonabDoor
open Go.RowKit

theorem cellB_none {c : UInt8} (h : cellB c = none) : ((c.toNat : Int) == 46) = false ∧ ((c.toNat : Int) == 71) = false ∧ ((c.toNat : Int) == 83) = false ∧ ((c.toNat : Int) == 64) = false ∧ ((c.toNat : Int) == 79) = false ∧ ((c.toNat : Int) == 84) = false ∧ ((c.toNat : Int) == 87) = false := by
  have key : ∀ d : UInt8, c ≠ d → ((c.toNat : Int) == (d.toNat : Int)) = false := fun d hd => by
    rw [beq_eq_false_iff_ne]
    intro e
    exact hd (UInt8.toNat_inj.1 (by omega))
  unfold cellB at h
  split at h
  · cases h
  · rename_i h1
    split at h
    · cases h
    · rename_i h2
      simp only [not_or] at h1 h2
      exact ⟨key 46 h1.1, key 71 h1.2.1, key 83 h1.2.2, key 64 h2.1, key 79 h2.2.1, key 84 h2.2.2.1, key 87 h2.2.2.2⟩
theorem cellB_some {c : UInt8} {b : Bool} (h : cellB c = some b) : (b = false ∧ (c = 46 ∨ c = 71 ∨ c = 83)) ∨ (b = true ∧ (c = 64 ∨ c = 79 ∨ c = 84 ∨ c = 87)) := by
  unfold cellB at h
  split at h
  · rename_i h1
    exact .inl ⟨by simpa using h.symm, h1⟩
  · split at h
    · rename_i h2
      exact .inr ⟨by simpa using h.symm, h2⟩
    · cases h

set_option maxHeartbeats 1000000 in
theorem cellOf_none {c : UInt8} (h : cellB c = none) (w : World) :
    Calls Tryd.prog 65 #[.int .u8 c.toNat] w fun e w' => e = .returned (.tuple #[.bool false, .bool false]) ∧ w' = w := by
  obtain ⟨h1, h2, h3, h4, h5, h6, h7⟩ := cellB_none h
  clear h
  generalize (c.toNat : Int) = n at *
  go_enter Tryd.func65, Tryd.ntmps65
  go_wp2
  go_ret2
  exact ⟨rfl, rfl⟩

set_option maxHeartbeats 1000000 in
theorem cellOf_some {c : UInt8} {b : Bool} (h : cellB c = some b) (w : World) :
    Calls Tryd.prog 65 #[.int .u8 c.toNat] w fun e w' => e = .returned (.tuple #[.bool b, .bool true]) ∧ w' = w := by
  rcases cellB_some h with ⟨rfl, rfl | rfl | rfl⟩ | ⟨rfl, rfl | rfl | rfl | rfl⟩
  all_goals
    clear h
    go_enter Tryd.func65, Tryd.ntmps65
    go_wp2
    go_ret2
    exact ⟨rfl, rfl⟩

theorem Touch.trans {b : Nat} {u v w : World} (h : Touch b u v) (k : Touch b v w) : Touch b u w :=
  ⟨k.os.trans h.os, k.tape.trans h.tape, k.output.trans h.output, k.size.trans h.size, fun i hi => (k.other i hi).trans (h.other i hi)⟩

/-- cells as a function -/
def cellsF (cs : List Bool) (i : Nat) : Bool := cs.getD i false
theorem cellsF_false (cs : List Bool) : cellsF (cs ++ [false]) = cellsF cs := by
  funext i
  unfold cellsF
  simp only [List.getD_eq_getElem?_getD]
  rcases Nat.lt_trichotomy i cs.length with h | h | h
  · rw [List.getElem?_append_left h]
  · subst h
    simp
  · rw [List.getElem?_eq_none (by simp; omega), List.getElem?_eq_none (by omega)]
theorem cellsF_true (cs : List Bool) : upd (cellsF cs) cs.length true = cellsF (cs ++ [true]) := by
  funext i
  unfold upd cellsF
  simp only [List.getD_eq_getElem?_getD]
  rcases Nat.lt_trichotomy i cs.length with h | h | h
  · rw [if_neg (by omega), List.getElem?_append_left h]
  · subst h
    simp
  · rw [if_neg (by omega), List.getElem?_eq_none (show cs.length ≤ i by omega), List.getElem?_eq_none (by rw [List.length_append]; simp; omega)]
theorem cellsF_at (cs : List Bool) : cellsF cs cs.length = false := by
  unfold cellsF
  simp
/-- how many are blocked -/
def blocks (cs : List Bool) : Nat := cs.count true
theorem blocks_true (cs : List Bool) : (blocks (cs ++ [true]) : Int) = blocks cs + 1 := by
  unfold blocks
  rw [List.count_append]
  simp
theorem blocks_false (cs : List Bool) : blocks (cs ++ [false]) = blocks cs := by
  unfold blocks
  rw [List.count_append]
  simp
theorem blocks_le (cs : List Bool) : blocks cs ≤ cs.length := List.count_le_length

/-- a grid of these cells lies in block b -/
def CellsAt (w : World) (b : Nat) (W H : Nat) (cs : List Bool) : Prop := GridAt w b W H (blocks cs) (cellsF cs) ∧ Free w b

theorem rowB_take {row : List UInt8} {j : Nat} {a : List Bool} (h : rowB (row.take j) = some a) (hj : j < row.length) : rowB (row.take (j + 1)) = (cellB row[j]).map (fun b => a ++ [b]) := by
  have key : ∀ (l : List UInt8) (a : List Bool) (c : UInt8), rowB l = some a → rowB (l ++ [c]) = (cellB c).map fun b => a ++ [b] := by
    intro l
    induction l with
    | nil =>
      intro a c ha
      simp [rowB] at ha
      subst ha
      simp only [List.nil_append, rowB]
      cases cellB c <;> rfl
    | cons x l ih =>
      intro a c ha
      simp only [List.cons_append, rowB] at ha ⊢
      cases hx : cellB x with
      | none => simp [hx] at ha
      | some b =>
        simp only [hx] at ha ⊢
        cases hl : rowB l with
        | none => simp [hl] at ha
        | some m =>
          simp only [hl, Option.some.injEq] at ha
          subst ha
          rw [ih m c hl]
          cases cellB c <;> rfl
  rw [List.take_add_one, List.getElem?_eq_getElem hj]
  exact key _ _ _ h
theorem rowB_none {row : List UInt8} : ∀ {j : Nat}, rowB (row.take j) = none → rowB row = none := by
  have key : ∀ (l m : List UInt8), rowB l = none → rowB (l ++ m) = none := by
    intro l m
    induction l with
    | nil => intro h; simp [rowB] at h
    | cons x l ih =>
      intro h
      simp only [List.cons_append, rowB] at h ⊢
      cases hx : cellB x with
      | none => simp
      | some b =>
        simp only [hx] at h ⊢
        cases hl : rowB l with
        | none => rw [ih hl]
        | some q => simp [hl] at h
  intro j h
  have := key _ (row.drop j) h
  rwa [List.take_append_drop] at this

theorem inB_nat {W H c : Nat} (h : c < W * H) : inB W H c = true := decide_eq_true ⟨by omega, by rw [← Int.natCast_mul]; omega⟩

theorem set_false {b W H : Nat} {cs : List Bool} {i : Int} (hi : i = cs.length) (w : World) (g : CellsAt w b W H cs) (hlt : cs.length < W * H) :
    Calls Tryd.prog 18 #[.pointer (some ⟨b, 0, none⟩), .int .i64 i, .bool false] w fun e w' => e = .returned (.tuple #[.bool false, .nilIface]) ∧ ∃ m, w' = w.drewN m := by
  subst hi
  exact set_same cs.length false w g.1 (inB_nat hlt) (cellsF_at cs)
theorem set_true {b W H : Nat} {cs : List Bool} {i : Int} (hi : i = cs.length) (w : World) (g : CellsAt w b W H cs) (hlt : cs.length < W * H) (hm : cs.length ≤ 1000000) :
    Calls Tryd.prog 18 #[.pointer (some ⟨b, 0, none⟩), .int .i64 i, .bool true] w fun e w' => e = .returned (.tuple #[.bool true, .nilIface]) ∧ Touch b w w' ∧ CellsAt w' b W H (cs ++ [true]) := by
  subst hi
  have hb := blocks_le cs
  refine (set_new cs.length true w g.1 g.2 (inB_nat hlt) (cellsF_at cs) (by omega) (by omega)).mono fun e w' ⟨he, hT, hG, hF⟩ => ⟨he, hT, ?_, hF⟩
  rw [cellsF_true, ← blocks_true] at hG
  exact hG
theorem CellsAt.false {w : World} {b W H : Nat} {cs : List Bool} (g : CellsAt w b W H cs) : CellsAt w b W H (cs ++ [false]) := by
  unfold CellsAt
  rw [cellsF_false, blocks_false]
  exact g
theorem CellsAt.drewN {w : World} {b W H : Nat} {cs : List Bool} (g : CellsAt w b W H cs) (m : Nat) : CellsAt (w.drewN m) b W H cs := ⟨g.1.drewN m, g.2⟩

theorem idx_str (l : List UInt8) (j : Nat) (hj : j < l.length) (w : World) : (Instr.index 9 (.string (str l)) (.int .i64 j)).run Tryd.prog w = .ok (.int .u8 (l[j]).toNat) w := by
  rw [run_index_string w 9 (str l) .i64 j Tryd.underlying9, dif_pos ⟨by omega, by rw [str_size]; omega⟩]
  congr 1

set_option maxHeartbeats 2000000 in
set_option maxRecDepth 100000 in
theorem fillRow_any {b W H : Nat} {cs : List Bool} (row : List UInt8) (w : World) (g : CellsAt w b W H cs) (hl : cs.length + row.length ≤ W * H) :
    Calls Tryd.prog 55 #[.pointer (some ⟨b, 0, none⟩), .int .i64 cs.length, .string (str row)] w fun e w' => e = .returned (.bool (rowB row).isSome) ∧ Touch b w w' ∧ (∀ a, rowB row = some a → CellsAt w' b W H (cs ++ a)) := by
  have w1 := g.1.w1
  have w2 := g.1.w2
  have h1 := g.1.h1
  have h2 := g.1.h2
  have k2 : W * H ≤ 16 * 16 := Nat.mul_le_mul (by omega) (by omega)
  have hsz := str_size row
  obtain ⟨N, hN⟩ : ∃ N, W * H = N := ⟨_, rfl⟩
  have HN : Hid (W * H = N) := hN
  rw [hN] at hl k2
  clear hN
  go_enter Tryd.func55, Tryd.ntmps55
  go_wp2
  go_loopw [14] (fun i wr => ∃ (j : Nat) (a : List Bool), j ≤ row.length ∧ i = .int .i64 j ∧ rowB (row.take j) = some a ∧ Touch b w wr ∧ CellsAt wr b W H (cs ++ a))
    (fun i _ => row.length - (intOf i).toNat)
  case atStart => exact ⟨0, [], by omega, rfl, rfl, Touch.refl b w, by simpa using g⟩
  case round =>
    obtain ⟨j, a, hj, rfl, ha, hT, hC⟩ := hrel
    by_cases hlt : j < row.length
    · have hal := rowB_len ha
      rw [List.length_take, Nat.min_eq_left hj] at hal
      have hcl : (cs ++ a).length = cs.length + j := by rw [List.length_append, hal]
      have hta := rowB_take ha hlt
      have hix := idx_str row j hlt
      have hno : rowB (row.take (j + 1)) = none → rowB row = none := rowB_none
      generalize row[j] = c at hta hix
      have hi : (cs.length : Int) + j = ((cs ++ a).length : Nat) := by rw [hcl]; omega
      have hin : (cs ++ a).length < W * H := by rw [hcl, HN.out]; omega
      have him : (cs ++ a).length ≤ 1000000 := by rw [hcl]; omega
      have HI : Hid ((cs.length : Int) + j = ((cs ++ a).length : Nat)) := hi
      have j1 : (0 : Int) ≤ (cs.length : Int) + j ∧ (cs.length : Int) + j ≤ 1000000 := by omega
      clear hi hcl hal
      cases hc : cellB c with
      | none =>
        have hbad : rowB row = none := hno (by rw [hta, hc]; rfl)
        clear hta
        go_wp2_with (first | (go_at_call 65; refine (cellOf_none hc _).mono ?_; rintro e w' ⟨rfl, rfl⟩) | (go_at_call 18; refine (set_false HI.out _ hC hin).mono ?_; rintro e w' ⟨rfl, m, rfl⟩))
        go_ret
        exact ⟨by rw [hbad]; rfl, hT.drewN m, fun a' h' => by rw [hbad] at h'; cases h'⟩
      | some v =>
        rw [hc] at hta
        have HTA : Hid (rowB (row.take (j + 1)) = some (a ++ [v])) := hta
        clear hta
        cases v with
        | false =>
          go_wp2_with (first | (go_at_call 65; refine (cellOf_some hc _).mono ?_; rintro e w' ⟨rfl, rfl⟩) | (go_at_call 18; refine (set_false HI.out _ hC hin).mono ?_; rintro e w' ⟨rfl, m, rfl⟩))
          go_roundw
          case rel => exact ⟨j + 1, a ++ [false], by omega, by go_num, HTA.out, hT.drewN m, by rw [← List.append_assoc]; exact (hC.drewN m).false⟩
          case measure => simp [intOf]; omega
        | true =>
          go_wp2_with (first | (go_at_call 65; refine (cellOf_some hc _).mono ?_; rintro e w' ⟨rfl, rfl⟩) | (go_at_call 18; refine (set_true HI.out _ hC hin him).mono ?_; rintro e w3 ⟨rfl, T3, C3⟩))
          go_roundw
          case rel => exact ⟨j + 1, a ++ [true], by omega, by go_num, HTA.out, hT.trans T3, by rw [← List.append_assoc]; exact C3⟩
          case measure => simp [intOf]; omega
    · have hjl : j = row.length := by omega
      subst hjl
      rw [List.take_length] at ha
      go_wp2
      go_ret
      exact ⟨by rw [ha]; rfl, hT, fun a' h' => by rw [ha] at h'; cases h'; exact hC⟩
end Go.Proofs.YtkhofbpgdkoonabDoor
