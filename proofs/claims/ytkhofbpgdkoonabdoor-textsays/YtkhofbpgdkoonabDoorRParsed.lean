/-
  What a text is read as, by the reference: the whole.
-/
import Derived.Test.YtkhofbpgdkoonabDoorRParse4
namespace Go.Proofs.YtkhofbpgdkoonabDoor
open Go.RowKit

theorem rparse_rows {s a b c d r : List UInt8} {W H : Nat} {o : Option (List Bool)} (K : HeadOk s a b c d r W H) (hs : sideB W = true) (hs2 : sideB H = true) (ho : rowsB W H r = o) (w : World) :
    Calls Tryd.prog 10 #[.string (str s)] w fun e w' => ((o = none ∧ e = .returned (.tuple #[.pointer none, .int .i64 3])) ∨ (∃ cs, o = some cs ∧ ∃ B, w.heap.size ≤ B ∧ B < w'.heap.size ∧ e = .returned (.tuple #[.pointer (some ⟨B, 0, none⟩), .int .i64 0]) ∧ RCells w' B W H cs)) ∧ Below w.heap.size w w' := by
  rw [rowsB_flat] at ho
  by_cases h1 : (lnsL r).1.length = H
  · by_cases h2 : (lnsL r).2 = []
    · rw [if_pos ⟨h1, h2⟩] at ho
      exact rparse_loop K hs hs2 ⟨h1, h2⟩ ho w
    · rw [if_neg (fun h => h2 h.2)] at ho
      exact (rparse_rest K hs hs2 ⟨h1, h2⟩ w).mono fun e w' ⟨he, hb⟩ => ⟨.inl ⟨ho.symm, he⟩, hb⟩
  · rw [if_neg (fun h => h1 h.1)] at ho
    exact (rparse_len K hs hs2 h1 w).mono fun e w' ⟨he, hb⟩ => ⟨.inl ⟨ho.symm, he⟩, hb⟩

/-- the reference reads a text as this grid -/
structure RGoodPost (w : World) (W H : Nat) (cs : List Bool) (e : Ending) (w' : World) : Prop where
  ex : ∃ B, w.heap.size ≤ B ∧ B < w'.heap.size ∧ e = .returned (.tuple #[.pointer (some ⟨B, 0, none⟩), .int .i64 0]) ∧ RCells w' B W H cs ∧ Below w.heap.size w w'
/-- the reference does not read a text -/
structure RBadPost (w : World) (n : Nat) (e : Ending) (w' : World) : Prop where
  ex : e = .returned (.tuple #[.pointer none, .int .i64 n]) ∧ Below w.heap.size w w'

theorem rparse_bad {s : List UInt8} {n : Nat} (h : readOf s = .bad n) (w : World) : Calls Tryd.prog 10 #[.string (str s)] w (RBadPost w n) := by
  unfold readOf at h
  split at h
  · rename_i h1
    cases h
    exact (rparse_many h1 w).mono fun _ _ h => ⟨h⟩
  · rename_i h1
    split at h
    · rename_i h4
      cases h
      exact (rparse_few h1 h4 w).mono fun _ _ h => ⟨h⟩
    · rename_i a b c d r h4
      split at h
      · rename_i hz
        cases h
        exact (rparse_head h1 h4 hz w).mono fun _ _ h => ⟨h⟩
      · rename_i W H hz
        split at h
        · rename_i hs
          split at h
          · rename_i hr
            cases h
            have e1 := side_nat hs.1
            have e2 := side_nat hs.2
            rw [← e1, ← e2] at hz
            exact (rparse_rows (headOk h1 h4 hz) (by rw [e1]; exact hs.1) (by rw [e2]; exact hs.2) hr w).mono fun e w' ⟨hp, hb⟩ => by
              rcases hp with ⟨_, he⟩ | ⟨cs, hn, _⟩
              · exact ⟨he, hb⟩
              · cases hn
          · cases h
        · rename_i hs
          cases h
          exact (rparse_bound (headOk h1 h4 hz) (side_cases hs) w).mono fun _ _ h => ⟨h⟩

theorem rparse_good {s : List UInt8} {W H : Nat} {cs : List Bool} (h : readOf s = .good W H cs) (w : World) : Calls Tryd.prog 10 #[.string (str s)] w (RGoodPost w W H cs) := by
  unfold readOf at h
  split at h
  · cases h
  · rename_i h1
    split at h
    · cases h
    · rename_i a b c d r h4
      split at h
      · cases h
      · rename_i w0 h0 hz
        split at h
        · rename_i hs
          split at h
          · cases h
          · rename_i cs' hr
            injection h with q1 q2 q3
            subst q1 q2 q3
            have e1 := side_nat hs.1
            have e2 := side_nat hs.2
            rw [← e1, ← e2] at hz
            exact (rparse_rows (headOk h1 h4 hz) (by rw [e1]; exact hs.1) (by rw [e2]; exact hs.2) hr w).mono fun e w' ⟨hp, hb⟩ => by
              rcases hp with ⟨hn, _⟩ | ⟨cs, hn, B, b1, b2, he, hC⟩
              · cases hn
              · cases hn
                exact ⟨B, b1, b2, he, hC, hb⟩
        · cases h
theorem bad_pos {s : List UInt8} {n : Nat} (h : readOf s = .bad n) : 0 < n := by
  unfold readOf at h
  split at h
  · cases h; decide
  · split at h
    · cases h; decide
    · split at h
      · cases h; decide
      · split at h
        · split at h
          · cases h; decide
          · cases h
        · cases h; decide
end Go.Proofs.YtkhofbpgdkoonabDoor
