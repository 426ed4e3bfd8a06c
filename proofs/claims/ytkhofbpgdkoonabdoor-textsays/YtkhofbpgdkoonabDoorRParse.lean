/-
  What a text is read as, by the reference.
-/
import Derived.Test.YtkhofbpgdkoonabDoorSized
import Derived.Test.YtkhofbpgdkoonabDoorLines
import Derived.Test.YtkhofbpgdkoonabDoorParsed
namespace Go.Proofs.YtkhofbpgdkoonabDoor
open Go.RowKit

/-- the number that the reference takes -/
def szv (v : Int) : Int := if 0 ≤ v ∧ (Lib.itoa v).length ≤ 9 then v else -1
theorem szv_in {v : Int} (h : sideB v = true) : szv v = v := by
  have a : 1 ≤ v ∧ v ≤ 16 := of_decide_eq_true h
  have := itoa_len v a.1 a.2
  unfold szv
  rw [if_pos ⟨by omega, by omega⟩]
theorem szv_out {v : Int} (h : sideB v = false) : sideB (szv v) = false := by
  unfold szv
  split
  · exact h
  · decide
theorem sized_g {s word : List UInt8} {v r : Int} {Wd : ByteArray} (hW : Hid (Wd = str word)) (h : Hid (numOf s word = some v)) (hr : Hid (szv v = r)) (hs : s.length ≤ 1000) (w : World) :
    Calls Tryd.prog 32 #[.string (str s), .string Wd] w fun e w' => e = .returned (.int .i64 r) ∧ Below w.heap.size w w' := by
  rw [hW.out, ← hr.out]
  obtain ⟨e, v1, v2⟩ := numOf_iff.1 h.out
  have L := sight_of e (itoa_ne v)
  unfold szv
  by_cases hl : 9 < (Lib.itoa v).length
  · rw [if_neg (by omega)]
    exact sized_long L hl hs w
  · by_cases hv : 0 ≤ v
    · rw [if_pos ⟨hv, by omega⟩]
      have e2 : Lib.itoa v = Lib.decDigits v.toNat := by unfold Lib.itoa; rw [if_neg (by omega)]
      rw [e2] at L hl
      have := sized_plain L hl hs w
      rw [show ((v.toNat : Nat) : Int) = v by omega] at this
      exact this
    · rw [if_neg (by omega)]
      refine sized_minus L hl (itoa_ne v) ?_ hs w
      unfold Lib.itoa
      rw [if_pos (by omega)]
      rfl

/-- strings in a row of memory -/
def StrRow (w : World) (bb : Nat) (ls : List (List UInt8)) : Prop := bb < w.heap.size ∧ ∀ i, i < ls.length → w.cell? ⟨bb, i, none⟩ = some (.string (str (ls.getD i [])))
theorem strRow_of {w : World} {base : Nat} {v : Value} {ls : List (List UInt8)} (h : w.ownsRow base 9 1 v ls.length (svals ls)) (hne : ls.length ≠ 0) : ∃ bb cap, v = .slice (some ⟨bb, 0, none⟩) ls.length cap ∧ base ≤ bb ∧ StrRow w bb ls := by
  rcases h.2 with ⟨hv, h0⟩ | ⟨g, cap, cur, hv, hb, hg, _, _, hsz, htk⟩
  · exact absurd h0 hne
  · refine ⟨g, cap, hv, hb, (Array.getElem?_eq_some_iff.1 hg).1, fun i hi => ?_⟩
    subst hv
    have := h.cellAt i (by omega)
    rw [this]
    unfold svals
    rw [List.getElem?_map, List.getElem?_eq_getElem hi]
    rw [List.getD_eq_getElem?_getD, List.getElem?_eq_getElem hi]
    rfl
theorem own_len {w : World} {base : Nat} {v : Value} {ls : List (List UInt8)} (h : w.ownsRow base 9 1 v ls.length (svals ls)) : ∃ A cap, v = .slice A ls.length cap := by
  rcases h.2 with ⟨hv, h0⟩ | ⟨g, cap, cur, hv, _⟩
  · exact ⟨none, 0, by rw [hv, h0]⟩
  · exact ⟨_, _, hv⟩

theorem cut4_lines {s a b c d r : List UInt8} (h : cut4 s = some (a, b, c, d, r)) : lnsL s = (a :: b :: c :: d :: (lnsL r).1, (lnsL r).2) := by
  unfold cut4 at h
  split at h
  · cases h
  · rename_i h1
    split at h
    · cases h
    · rename_i h2
      split at h
      · cases h
      · rename_i h3
        split at h
        · cases h
        · rename_i h4
          simp at h
          obtain ⟨rfl, rfl, rfl, rfl, rfl⟩ := h
          rw [lnsL_cut, h1]
          simp only
          rw [lnsL_cut, h2]
          simp only
          rw [lnsL_cut, h3]
          simp only
          rw [lnsL_cut, h4]
theorem cut4_few {s : List UInt8} (h : cut4 s = none) : (lnsL s).1.length < 4 := by
  unfold cut4 at h
  rw [lnsL_cut]
  cases h1 : cutL s with
  | none => simp
  | some p =>
    simp only [h1] at h ⊢
    rw [lnsL_cut]
    cases h2 : cutL p.2 with
    | none => simp
    | some q =>
      simp only [h2] at h ⊢
      rw [lnsL_cut]
      cases h3 : cutL q.2 with
      | none => simp
      | some x =>
        simp only [h3] at h ⊢
        rw [lnsL_cut]
        cases h4 : cutL x.2 with
        | none => simp
        | some y => simp [h4] at h

/-- the reference's lines -/
structure LinesPost (w : World) (s : List UInt8) (e : Ending) (w' : World) : Prop where
  ex : ∃ v, e = .returned (.tuple #[v, .string (str (lnsL s).2)]) ∧ w'.ownsRow w.heap.size 9 1 v (lnsL s).1.length (svals (lnsL s).1) ∧ Below w.heap.size w w'
theorem linesS (s : List UInt8) (hs : s.length ≤ 1000) (w : World) : Calls Tryd.prog 30 #[.string (str s)] w (LinesPost w s) := (lines_any s hs w).mono fun _ _ h => ⟨h⟩

set_option maxHeartbeats 1000000 in
set_option maxRecDepth 1000000 in
theorem rparse_many {s : List UInt8} (h : 1000 < s.length) (w : World) :
    Calls Tryd.prog 10 #[.string (str s)] w fun e w' => e = .returned (.tuple #[.pointer none, .int .i64 2]) ∧ Below w.heap.size w w' := by
  have hsz := str_size s
  have h1 : (1000 : Int) < (s.length : Int) := by omega
  go_enter Tryd.func10, Tryd.ntmps10
  go_wp2
  go_ret2
  exact ⟨rfl, Below.refl _ _⟩

set_option maxHeartbeats 1000000 in
set_option maxRecDepth 1000000 in
theorem rparse_few {s : List UInt8} (h : ¬ 1000 < s.length) (h4 : cut4 s = none) (w : World) :
    Calls Tryd.prog 10 #[.string (str s)] w fun e w' => e = .returned (.tuple #[.pointer none, .int .i64 3]) ∧ Below w.heap.size w w' := by
  have hsz := str_size s
  have h1 : ¬ (1000 : Int) < (s.length : Int) := by omega
  have hf := cut4_few h4
  clear h4
  go_enter Tryd.func10, Tryd.ntmps10
  go_wp2_with (go_at_call 30; refine (linesS s (by omega) _).mono ?_)
  rintro e w1 ⟨v, rfl, hown, hb1⟩
  obtain ⟨A, cap, rfl⟩ := own_len hown
  have hf2 : ((lnsL s).1.length : Int) < 4 := by omega
  generalize (lnsL s).1.length = n at *
  go_wp2
  go_ret2
  exact ⟨rfl, hb1⟩

set_option maxHeartbeats 2000000 in
set_option maxRecDepth 1000000 in
theorem rparse_head {s a b c d r : List UInt8} (h : ¬ 1000 < s.length) (h4 : cut4 s = some (a, b, c, d, r)) (hz : sizeOf4 a b c d = none) (w : World) :
    Calls Tryd.prog 10 #[.string (str s)] w fun e w' => e = .returned (.tuple #[.pointer none, .int .i64 3]) ∧ Below w.heap.size w w' := by
  have hsz := str_size s
  have h1 : ¬ (1000 : Int) < (s.length : Int) := by omega
  obtain ⟨l1, l2, l3⟩ := cut4_len h4
  have hL := cut4_lines h4
  obtain ⟨B1, e1⟩ : ∃ x, (numOf b heightW).isSome = x := ⟨_, rfl⟩
  obtain ⟨B2, e2⟩ : ∃ x, (numOf c widthW).isSome = x := ⟨_, rfl⟩
  have ta := toList_str a
  have td := toList_str d
  have tt := toList_str typeW
  have tm := toList_str mapW
  unfold str typeW at tt
  unfold str mapW at tm
  have hor : ((a == [116, 121, 112, 101, 32, 111, 99, 116, 105, 108, 101]) = false) ∨ (((a == [116, 121, 112, 101, 32, 111, 99, 116, 105, 108, 101]) = true) ∧ (B1 = false ∨ (B1 = true ∧ (B2 = false ∨ (B2 = true ∧ (d == [109, 97, 112]) = false))))) := by
    cases ha : (a == [116, 121, 112, 101, 32, 111, 99, 116, 105, 108, 101]) with
    | false => exact .inl rfl
    | true =>
      refine .inr ⟨rfl, ?_⟩
      cases hB1 : B1 with
      | false => exact .inl rfl
      | true =>
        refine .inr ⟨rfl, ?_⟩
        cases hB2 : B2 with
        | false => exact .inl rfl
        | true =>
          refine .inr ⟨rfl, ?_⟩
          rw [hB1] at e1
          rw [hB2] at e2
          obtain ⟨x, hx⟩ := Option.isSome_iff_exists.1 e1
          obtain ⟨y, hy⟩ := Option.isSome_iff_exists.1 e2
          rw [beq_eq_false_iff_ne]
          intro hd
          rw [beq_iff_eq] at ha
          unfold sizeOf4 at hz
          rw [hx, hy] at hz
          simp [ha, hd, typeW, mapW] at hz
  have E1 : Hid ((numOf b heightW).isSome = B1) := e1
  have E2 : Hid ((numOf c widthW).isSome = B2) := e2
  clear e1 e2 hz h4
  have hn4 : (lnsL s).1.length = 4 + (lnsL r).1.length := by rw [hL]; simp; omega
  have HLL : Hid ((lnsL s).1 = a :: b :: c :: d :: (lnsL r).1) := by show _ = _; rw [hL]
  clear hL
  go_enter Tryd.func10, Tryd.ntmps10
  go_wp2_with (go_at_call 30; refine (linesS s (by omega) _).mono ?_)
  rintro e w1 ⟨v, rfl, hown, hb1⟩
  obtain ⟨bb, cap, rfl, hbb, hbl, hcs⟩ := strRow_of hown (by omega)
  have c0 : w1.cell? ⟨bb, 0, none⟩ = some (.string (str a)) := by rw [hcs 0 (by omega), HLL.out]; rfl
  have c1 : w1.cell? ⟨bb, 1, none⟩ = some (.string (str b)) := by rw [hcs 1 (by omega), HLL.out]; rfl
  have c2 : w1.cell? ⟨bb, 2, none⟩ = some (.string (str c)) := by rw [hcs 2 (by omega), HLL.out]; rfl
  have c3 : w1.cell? ⟨bb, 3, none⟩ = some (.string (str d)) := by rw [hcs 3 (by omega), HLL.out]; rfl
  have hf2 : ¬ ((lnsL s).1.length : Int) < 4 := by omega
  have q1 : (4 : Int) ≤ ((lnsL s).1.length : Int) := by omega
  clear hown hcs hn4
  generalize (lnsL s).1.length = n at *
  generalize (lnsL s).2 = rs at *
  rcases hor with ha | ⟨ha, rfl | ⟨rfl, rfl | ⟨rfl, hd⟩⟩⟩
  all_goals
    go_wp2_with (go_at_call 31; refine (headedH E1.out (by omega) _).mono ?_)
    rintro e w' ⟨rfl, rfl⟩
    go_wp2_with (go_at_call 31; refine (headedW E2.out (by omega) _).mono ?_)
    rintro e w' ⟨rfl, rfl⟩
    go_wp2
    go_ret2
    exact ⟨rfl, hb1⟩
end Go.Proofs.YtkhofbpgdkoonabDoor
